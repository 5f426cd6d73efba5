/- Texts of ours, packed. -/
import Derived.Test.YtpdofdloclmbdaaGreatRows
import Derived.BigQuiet
import Derived.Deep.QuietTactic
import Derived.Laws.MakeOwn
import Derived.Maps.AppendAt
import Derived.Test.YtpdofdloclmbdaaGreatPk17
import Derived.Test.YtpdofdloclmbdaaGreatPk10
import Derived.Test.YtpdofdloclmbdaaGreatPk9
import Derived.Test.YtpdofdloclmbdaaGreatPk11
section
/- Package pmem: its plain functions. -/
-- OPTIONAL
namespace Go.Proofs.YtpdofdloclmbdaaGreat
open Go.RowKit Go.Grommet

/-- A device of these words. -/
structure DevIs (w : World) (d g : Nat) (ws : List PW) : Prop where
  dev : w.heap[d]? = some (.cells #[.slice (some ⟨g, 0, none⟩) ws.length ws.length] 131 (0, 0))
  row : w.heap[g]? = some (.cells (flat ws).toArray 128 (0, 0))
  ne : d ≠ g
  fits : ws.length ≤ 65536
  small : ∀ c ∈ ws, c.Small

def ptr (d : Nat) : Value := .pointer (some ⟨d, 0, none⟩)
def wordAt (g k : Nat) : Value := .pointer (some ⟨g, k * 6, none⟩)

theorem pm_Words_any (w : World) (d g : Nat) (ws : List PW) (h : DevIs w d g ws) : Calls Tryz.prog 70 #[ptr d] w fun e w' => e = .returned (.int .i64 (ws.length : Int)) ∧ w' = w := by
  have c1 : w.cell? ⟨d, 0, none⟩ = some (.slice (some ⟨g, 0, none⟩) ws.length ws.length) := by simp [World.cell?, h.dev]
  unfold ptr
  generalize ws.length = n at c1
  clear h
  go_enter Tryz.func70, Tryz.ntmps70
  go_wp2
  go_ret
  exact ⟨rfl, rfl⟩

theorem lines_any (w : World) (d g : Nat) (ws : List PW) (h : DevIs w d g ws) : Calls Tryz.prog 71 #[ptr d] w fun e w' => e = .returned (.int .i64 ((ws.length / 8 : Nat) : Int)) ∧ w' = w := by
  have HW := Lib.hid (pm_Words_any w d g ws h)
  have hf := h.fits
  unfold ptr at HW ⊢
  generalize ws.length = n at HW hf
  have hd : Int.tdiv (n : Int) 8 = ((n / 8 : Nat) : Int) := by
    rw [Int.tdiv_eq_ediv_of_nonneg (by omega)]; omega
  have hwr : IntKind.i64.wrap ((n / 8 : Nat) : Int) = ((n / 8 : Nat) : Int) := IntWalk.i64_in _ ⟨by omega, by omega⟩
  clear h
  go_enter Tryz.func71, Tryz.ntmps71
  go_wp2_with fail
  refine HW.out.mono ?_
  rintro e w1 ⟨rfl, rfl⟩
  go_wp2
  go_ret
  refine ⟨?_, rfl⟩
  go_num

/-- What is wrong with a number. -/
def hasE (at_ : Int) (many : Nat) : Nat := if at_ < 0 ∨ (many : Int) ≤ at_ then 8 else 0
theorem has_any (w : World) (d : Nat) (at_ : Int) (many : Nat) : Calls Tryz.prog 69 #[ptr d, .int .i64 at_, .int .i64 (many : Int)] w fun e w' => e = .returned (.int .i64 (hasE at_ many : Int)) ∧ w' = w := by
  unfold ptr
  go_enter Tryz.func69, Tryz.ntmps69
  by_cases h1 : at_ < 0
  · have HE := Lib.hid (show hasE at_ many = 8 by unfold hasE; rw [if_pos (.inl h1)])
    go_wp2
    go_ret
    exact ⟨by rw [HE.out]; rfl, rfl⟩
  · by_cases h2 : (many : Int) ≤ at_
    · have HE := Lib.hid (show hasE at_ many = 8 by unfold hasE; rw [if_pos (.inr h2)])
      have h3 : 0 ≤ at_ := by omega
      go_wp2
      go_ret
      exact ⟨by rw [HE.out]; rfl, rfl⟩
    · have HE := Lib.hid (show hasE at_ many = 0 by unfold hasE; rw [if_neg (by omega)])
      have h3 : 0 ≤ at_ := by omega
      have h4 : at_ < (many : Int) := by omega
      go_wp2
      go_ret
      exact ⟨by rw [HE.out]; rfl, rfl⟩
end Go.Proofs.YtpdofdloclmbdaaGreat
end
section
/- Package pmem: a new device; one word loaded, stored, settled. -/
-- OPTIONAL
namespace Go.Proofs.YtpdofdloclmbdaaGreat
open Go.RowKit Go.Grommet

theorem wordsT : Tryz.prog.underlying 129 = some (.slice 128) := Tryz.underlying129
theorem infoWord : (Tryz.prog.info? 128).map (fun i => (i.zero, i.size, i.bytes)) = some (some (.agg #[.int .u64 0, .int .u64 0, .bool false, .bool false, .bool false, .int .u64 0]), 6, 32) := by kernel_rfl

/-- A word of a device, where it stands. -/
theorem DevIs.get {w : World} {d g : Nat} {ws : List PW} (h : DevIs w d g ws) {k : Nat} {c : PW} (hc : ws[k]? = some c) :
    w.cell? ⟨g, k * 6, none⟩ = some (.int .u64 (c.sure : Int)) ∧ w.cell? ⟨g, k * 6 + 1, none⟩ = some (.int .u64 (c.seen : Int)) ∧ w.cell? ⟨g, k * 6 + 2, none⟩ = some (.bool c.loose) ∧ w.cell? ⟨g, k * 6 + 3, none⟩ = some (.bool c.flushed) ∧ w.cell? ⟨g, k * 6 + 4, none⟩ = some (.bool c.again) ∧ w.cell? ⟨g, k * 6 + 5, none⟩ = some (.int .u64 (c.kept : Int)) :=
  ⟨row_cell h.row _ _ (pm_flat_get ws k 0 c hc (by decide)), row_cell h.row _ _ (pm_flat_get ws k 1 c hc (by decide)), row_cell h.row _ _ (pm_flat_get ws k 2 c hc (by decide)), row_cell h.row _ _ (pm_flat_get ws k 3 c hc (by decide)), row_cell h.row _ _ (pm_flat_get ws k 4 c hc (by decide)), row_cell h.row _ _ (pm_flat_get ws k 5 c hc (by decide))⟩
theorem DevIs.free {w : World} {d g : Nat} {ws : List PW} (h : DevIs w d g ws) (o : Nat) : w.frozen? ⟨g, o, none⟩ = false := row_free h.row o

theorem Load_ok (w : World) (d g : Nat) (ws : List PW) (h : DevIs w d g ws) (k : Nat) (c : PW) (hc : ws[k]? = some c) :
    Calls Tryz.prog 46 #[ptr d, .int .i64 (k : Int)] w fun e w' => e = .returned (.tuple #[.int .u64 (c.seen : Int), .int .i64 0]) ∧ w' = w := by
  have HW := Lib.hid (pm_Words_any w d g ws h)
  have HH := Lib.hid (has_any w d (k : Int) ws.length)
  have hlt := (List.getElem?_eq_some_iff.1 hc).1
  have hE : hasE (k : Int) ws.length = 0 := by unfold hasE; rw [if_neg (by omega)]
  rw [hE] at HH
  obtain ⟨_, cS, _⟩ := h.get hc
  have c1 : w.cell? ⟨d, 0, none⟩ = some (.slice (some ⟨g, 0, none⟩) ws.length ws.length) := by simp [World.cell?, h.dev]
  have hf := h.fits
  unfold ptr at HW HH ⊢
  generalize ws.length = n at HW HH hlt c1 hf
  generalize c.seen = V at cS
  have hlt' : (k : Int) < (n : Int) := by omega
  have k0 : (0 : Int) ≤ (k : Int) := by omega
  clear h hc hE
  go_enter Tryz.func46, Tryz.ntmps46
  go_wp2_with fail
  refine HW.out.mono ?_
  rintro e w1 ⟨rfl, rfl⟩
  go_wp2_with fail
  refine HH.out.mono ?_
  rintro e w1 ⟨rfl, rfl⟩
  go_wp2
  exact bodyPost_ret (v := .tuple #[.int .u64 (V : Int), .int .i64 0]) (by simp [results, Tryz.results46, go_sem]) rfl ⟨rfl, rfl⟩

theorem Store_no (w : World) (d g : Nat) (ws : List PW) (h : DevIs w d g ws) (a : Int) (v : Nat) (hE : hasE a ws.length = 8) :
    Calls Tryz.prog 17 #[ptr d, .int .i64 a, .int .u64 (v : Int)] w fun e w' => e = .returned (.int .i64 8) ∧ w' = w := by
  have HW := Lib.hid (pm_Words_any w d g ws h)
  have HH := Lib.hid (has_any w d a ws.length)
  rw [hE] at HH
  unfold ptr at HW HH ⊢
  generalize ws.length = n at HW HH
  clear h hE
  go_enter Tryz.func17, Tryz.ntmps17
  go_wp2_with fail
  refine HW.out.mono ?_
  rintro e w1 ⟨rfl, rfl⟩
  go_wp2_with fail
  refine HH.out.mono ?_
  rintro e w1 ⟨rfl, rfl⟩
  go_wp2
  go_ret
  exact ⟨rfl, rfl⟩

/-- Words of a device, one of them turned by a store into one of its cells. -/
theorem DevIs.put {w : World} {d g : Nat} {ws : List PW} (h : DevIs w d g ws) {k : Nat} {c c' : PW} (hc : ws[k]? = some c) (j : Nat) (hj : j < 6) (v : Value) (hv : c.vs.set j v = c'.vs) (hs : c'.Small) :
    DevIs (w.setCell ⟨g, k * 6 + j, none⟩ v) d g (ws.set k c') := by
  refine ⟨?_, ?_, h.ne, by rw [List.length_set]; exact h.fits, ?_⟩
  · rw [List.length_set]; exact ((grown_setCell w ⟨g, k * 6 + j, none⟩ v).block d (Array.getElem?_eq_some_iff.1 h.dev).1 (by intro e; cases e; exact h.ne rfl)).trans h.dev
  · rw [← flat_set ws k j c c' v hc hj hv]; exact row_set h.row _ _
  · intro x hx
    rcases List.mem_or_eq_of_mem_set hx with e | e
    · exact h.small x e
    · rw [e]; exact hs
theorem DevIs.of {w : World} {d g : Nat} {ws : List PW} (h : DevIs w d g ws) {k : Nat} {c : PW} (hc : ws[k]? = some c) : c.Small := h.small c (List.mem_of_getElem? hc)

theorem Store_ok (w : World) (d g : Nat) (ws : List PW) (h : DevIs w d g ws) (k : Nat) (c : PW) (hc : ws[k]? = some c) (v : Nat) (hv : v < 18446744073709551616) :
    Calls Tryz.prog 17 #[ptr d, .int .i64 (k : Int), .int .u64 (v : Int)] w fun e w' => e = .returned (.int .i64 0) ∧ DevIs w' d g (ws.set k (c.store v)) ∧ w.grownBy w' (some g) := by
  have HW := Lib.hid (pm_Words_any w d g ws h)
  have HH := Lib.hid (has_any w d (k : Int) ws.length)
  have hlt := (List.getElem?_eq_some_iff.1 hc).1
  have hE : hasE (k : Int) ws.length = 0 := by unfold hasE; rw [if_neg (by omega)]
  rw [hE] at HH
  obtain ⟨f0, f1, f2, f3, f4, f5⟩ := h.get hc
  have z1 := h.free (k * 6 + 1)
  have z2 := h.free (k * 6 + 2)
  have z4 := h.free (k * 6 + 4)
  have c1 : w.cell? ⟨d, 0, none⟩ = some (.slice (some ⟨g, 0, none⟩) ws.length ws.length) := by simp [World.cell?, h.dev]
  have hf := h.fits
  have hgrow : Hid (w.grownBy (((w.setCell ⟨g, k * 6 + 1, none⟩ (.int .u64 (v : Int))).setCell ⟨g, k * 6 + 2, none⟩ (.bool true)).setCell ⟨g, k * 6 + 4, none⟩ (.bool c.flushed)) (some g)) :=
    Lib.hid (grown_trans (grown_trans (grown_setCell _ _ _) (grown_setCell _ ⟨g, k * 6 + 2, none⟩ _)) (grown_setCell _ ⟨g, k * 6 + 4, none⟩ _))
  have hdev : Hid (DevIs (((w.setCell ⟨g, k * 6 + 1, none⟩ (.int .u64 (v : Int))).setCell ⟨g, k * 6 + 2, none⟩ (.bool true)).setCell ⟨g, k * 6 + 4, none⟩ (.bool c.flushed)) d g (ws.set k (c.store v))) := Lib.hid (by
    have hsm := h.of hc
    have d1 := h.put (c' := { c with seen := v }) hc 1 (by decide) (.int .u64 (v : Int)) rfl ⟨hsm.1, hv, hsm.2.2⟩
    have d2 := d1.put (k := k) (c := { c with seen := v }) (c' := { c with seen := v, loose := true }) (by simp [hlt]) 2 (by decide) (.bool true) rfl ⟨hsm.1, hv, hsm.2.2⟩
    have d3 := d2.put (k := k) (c := { c with seen := v, loose := true }) (c' := c.store v) (by simp [hlt]) 4 (by decide) (.bool c.flushed) rfl ⟨hsm.1, hv, hsm.2.2⟩
    rw [List.set_set, List.set_set] at d3
    exact d3)
  unfold ptr at HW HH ⊢
  generalize hn : ws.length = n at HW HH hlt c1 hf
  generalize c.flushed = fl at f3 hgrow hdev
  generalize ws.set k (c.store v) = ws' at hdev ⊢
  have hlt' : (k : Int) < (n : Int) := by omega
  have k0 : (0 : Int) ≤ (k : Int) := by omega
  clear h hc hE hn
  go_enter Tryz.func17, Tryz.ntmps17
  go_wp2_with fail
  refine HW.out.mono ?_
  rintro e w1 ⟨rfl, rfl⟩
  go_wp2_with fail
  refine HH.out.mono ?_
  rintro e w1 ⟨rfl, rfl⟩
  go_wp2
  go_ret
  exact ⟨rfl, hdev.out, hgrow.out⟩
end Go.Proofs.YtpdofdloclmbdaaGreat
end
section
/- Package pmem: a word is settled; what a loss of power leaves of it. -/
-- OPTIONAL
namespace Go.Proofs.YtpdofdloclmbdaaGreat
open Go.RowKit Go.Grommet

/-- A word that is settled. -/
def settled (v : Nat) (seen : Nat) : PW := ⟨v, seen, false, false, false, 0⟩

theorem settle_any (w : World) (d g : Nat) (ws : List PW) (h : DevIs w d g ws) (k : Nat) (c : PW) (hc : ws[k]? = some c) (v : Nat) (hv : v < 18446744073709551616) :
    Calls Tryz.prog 73 #[wordAt g k, .int .u64 (v : Int)] w fun e w' => (∃ x, e = .returned x) ∧ DevIs w' d g (ws.set k (settled v c.seen)) ∧ w.grownBy w' (some g) := by
  have hlt := (List.getElem?_eq_some_iff.1 hc).1
  obtain ⟨f0, f1, f2, f3, f4, f5⟩ := h.get hc
  have z0 := h.free (k * 6)
  have z2 := h.free (k * 6 + 2)
  have z3 := h.free (k * 6 + 3)
  have z4 := h.free (k * 6 + 4)
  have z5 := h.free (k * 6 + 5)
  have hgrow : Hid (w.grownBy (((((w.setCell ⟨g, k * 6, none⟩ (.int .u64 (v : Int))).setCell ⟨g, k * 6 + 2, none⟩ (.bool false)).setCell ⟨g, k * 6 + 3, none⟩ (.bool false)).setCell ⟨g, k * 6 + 4, none⟩ (.bool false)).setCell ⟨g, k * 6 + 5, none⟩ (.int .u64 0)) (some g)) :=
    Lib.hid (grown_trans (grown_trans (grown_trans (grown_trans (grown_setCell _ _ _) (grown_setCell _ ⟨g, k * 6 + 2, none⟩ _)) (grown_setCell _ ⟨g, k * 6 + 3, none⟩ _)) (grown_setCell _ ⟨g, k * 6 + 4, none⟩ _)) (grown_setCell _ ⟨g, k * 6 + 5, none⟩ _))
  have hdev : Hid (DevIs (((((w.setCell ⟨g, k * 6, none⟩ (.int .u64 (v : Int))).setCell ⟨g, k * 6 + 2, none⟩ (.bool false)).setCell ⟨g, k * 6 + 3, none⟩ (.bool false)).setCell ⟨g, k * 6 + 4, none⟩ (.bool false)).setCell ⟨g, k * 6 + 5, none⟩ (.int .u64 0)) d g (ws.set k (settled v c.seen))) := Lib.hid (by
    have hsm := h.of hc
    have d1 := h.put (c' := { c with sure := v }) hc 0 (by decide) (.int .u64 (v : Int)) rfl ⟨hv, hsm.2.1, hsm.2.2⟩
    have d2 := d1.put (k := k) (c := { c with sure := v }) (c' := { c with sure := v, loose := false }) (by simp [hlt]) 2 (by decide) (.bool false) rfl ⟨hv, hsm.2.1, hsm.2.2⟩
    have d3 := d2.put (k := k) (c := { c with sure := v, loose := false }) (c' := { c with sure := v, loose := false, flushed := false }) (by simp [hlt]) 3 (by decide) (.bool false) rfl ⟨hv, hsm.2.1, hsm.2.2⟩
    have d4 := d3.put (k := k) (c := { c with sure := v, loose := false, flushed := false }) (c' := { c with sure := v, loose := false, flushed := false, again := false }) (by simp [hlt]) 4 (by decide) (.bool false) rfl ⟨hv, hsm.2.1, hsm.2.2⟩
    have d5 := d4.put (k := k) (c := { c with sure := v, loose := false, flushed := false, again := false }) (c' := settled v c.seen) (by simp [hlt]) 5 (by decide) (.int .u64 0) rfl ⟨hv, hsm.2.1, by show 0 < _; decide⟩
    rw [List.set_set, List.set_set, List.set_set, List.set_set] at d5
    exact d5)
  unfold wordAt
  generalize ws.set k (settled v c.seen) = ws' at hdev ⊢
  clear h hc
  go_enter Tryz.func73, Tryz.ntmps73
  go_wp2
  first
  | (refine bodyPost_ret (results_none rfl _ _ _) rfl ?_; exact ⟨⟨_, rfl⟩, hdev.out, hgrow.out⟩)
  | (go_end0; exact ⟨⟨_, rfl⟩, hdev.out, hgrow.out⟩)

theorem left_any (w : World) (d g : Nat) (ws : List PW) (h : DevIs w d g ws) (k : Nat) (c : PW) (hc : ws[k]? = some c) (p : Nat) (hp : p < 256) :
    Calls Tryz.prog 75 #[wordAt g k, .int .u8 (p : Int)] w fun e w' => e = .returned (.int .u64 (c.left p : Int)) ∧ w' = w := by
  have hlt := (List.getElem?_eq_some_iff.1 hc).1
  obtain ⟨f0, f1, f2, f3, f4, f5⟩ := h.get hc
  have hm : Int.tmod (p : Int) 3 = ((p % 3 : Nat) : Int) := by rw [Int.tmod_eq_emod_of_nonneg (by omega)]; rfl
  have hm2 : (p : Int) % 3 = ((p % 3 : Nat) : Int) := rfl
  have hwr : IntKind.u8.wrap ((p % 3 : Nat) : Int) = ((p % 3 : Nat) : Int) := IntWalk.u8_in _ ⟨by omega, by omega⟩
  have h3 : p % 3 < 3 := Nat.mod_lt _ (by decide)
  have HL : Hid (∀ q, q = p % 3 → c.left p = if q = 2 then c.seen else if q = 1 ∧ c.flushed = true then c.kept else c.sure) := Lib.hid (fun q hq => by rw [hq]; rfl)
  have HQ := Lib.hid (show p % 3 = p % 3 from rfl)
  unfold wordAt
  clear h hc
  generalize hL : c.left p = L at HL
  generalize c.flushed = fl at f3 HL
  generalize hq : p % 3 = q at hm hm2 hwr h3 HL HQ
  have HL2 := HL.out q rfl
  replace HL2 := Lib.hid HL2
  clear HL HQ hq hL
  go_enter Tryz.func75, Tryz.ntmps75
  by_cases q2 : q = 2
  · subst q2
    obtain rfl := HL2.out
    go_wp2
    go_ret
    exact ⟨rfl, rfl⟩
  · by_cases q1 : q = 1
    · subst q1
      cases fl with
      | true =>
        obtain rfl := HL2.out
        go_wp2
        go_ret
        exact ⟨rfl, rfl⟩
      | false =>
        obtain rfl := HL2.out
        go_wp2
        go_ret
        exact ⟨rfl, rfl⟩
    · obtain rfl : q = 0 := by omega
      obtain rfl := HL2.out
      go_wp2
      go_ret
      exact ⟨rfl, rfl⟩
end Go.Proofs.YtpdofdloclmbdaaGreat
end
section
/- Package pmem: a line's words, gone through. -/
-- OPTIONAL
namespace Go.Proofs.YtpdofdloclmbdaaGreat
open Go.RowKit Go.Grommet Go.Shelf
attribute [local go_sem] Oper.semAt_some

/-- What a round keeps: these blocks. -/
def Kept (bi bd d : Nat) (W W' : World) : Prop := W'.heap[bi]? = W.heap[bi]? ∧ W'.heap[bd]? = W.heap[bd]? ∧ W'.heap[d]? = W.heap[d]?
theorem Kept.trans {bi bd d : Nat} {A B C : World} (h : Kept bi bd d A B) (k : Kept bi bd d B C) : Kept bi bd d A C := ⟨k.1.trans h.1, k.2.1.trans h.2.1, k.2.2.trans h.2.2⟩
theorem Kept.put {bi bd d : Nat} {w : World} (h1 : bi < w.heap.size) (h2 : bd < w.heap.size) (h3 : d < w.heap.size) (W : World) (l : Nat) (o o' : Obj) (hl : w.heap.size ≤ l) (_ : W.heap[l]? = some o) (_ : o.isCells = false) (_ : o.isWalk = false) : Kept bi bd d W (W.putObj l o') :=
  ⟨World.putObj_heap_other (by omega), World.putObj_heap_other (by omega), World.putObj_heap_other (by omega)⟩

def encW (g i : Nat) (x : Fin 8) : Array Value := #[wordAt g (8 * i + x.1)]

set_option maxHeartbeats 1000000 in
theorem line_stops (m : Nat) (w : World) (bi bd d g i n : Nat) (hi : w.heap[bi]? = some (.cells #[.int .i64 (i : Int)] 3 (0, 0))) (hd : w.heap[bd]? = some (.cells #[ptr d] 29 (0, 0)))
    (hdev : w.heap[d]? = some (.cells #[.slice (some ⟨g, 0, none⟩) n n] 131 (0, 0))) (hlt : 8 * i + 8 ≤ n) (hn : n ≤ 65536) :
    SeqStopsK Fence.wide m Tryz.prog 103 #[ptr bi, ptr bd] (encW g i) (Kept bi bd d) (fun xs => xs = List.finRange 8) (fun _ => True) 8 w := by
  intro l J Jx W hW hJ hJx hY h0
  have hbi := (Array.getElem?_eq_some_iff.1 hi).1
  have hbd := (Array.getElem?_eq_some_iff.1 hd).1
  have hdd := (Array.getElem?_eq_some_iff.1 hdev).1
  replace hi := (hW.block bi hbi).trans hi
  replace hd := (hW.block bd hbd).trans hd
  replace hdev := (hW.block d hdd).trans hdev
  have HK0 : Hid (Kept bi bd d W W) := Lib.hid ⟨rfl, rfl, rfl⟩
  have HY := Lib.hid hY
  have HJ := Lib.hid h0
  clear hW hJ hJx hY h0 hbi hbd hdd
  unfold ptr at hd ⊢
  refine callsIn_of_wp Tryz.func103 rfl trivial ?_ rfl
  simp only [Tryz.ntmps103, List.size_toArray, List.length_cons, List.length_nil, Nat.reduceAdd, Nat.reduceSub, Array.replicate_succ, Array.replicate_zero, List.push_toArray, List.append_toArray, List.nil_append, List.cons_append]
  have c1 : W.cell? ⟨bi, 0, none⟩ = some (.int .i64 (i : Int)) := by simp [World.cell?, hi]
  have wi : IntKind.i64.wrap ((i : Int) * 8) = (i : Int) * 8 := IntWalk.i64_in _ ⟨by omega, by omega⟩
  have wi2 : IntKind.i64.wrap (((i : Int) + 1) * 8) = ((i : Int) + 1) * 8 := IntWalk.i64_in _ ⟨by omega, by omega⟩
  have wi3 : IntKind.i64.wrap ((i : Int) + 1) = (i : Int) + 1 := IntWalk.i64_in _ ⟨by omega, by omega⟩
  have HR := Lib.hid (⟨hi, hd, hdev⟩ : W.heap[bi]? = some (.cells #[.int .i64 (i : Int)] 3 (0, 0)) ∧ W.heap[bd]? = some (.cells #[.pointer (some ⟨d, 0, none⟩)] 29 (0, 0)) ∧ W.heap[d]? = some (.cells #[.slice (some ⟨g, 0, none⟩) n n] 131 (0, 0)))
  gi_wp2
  gi_loopw [4] (fun p wr => ∃ k : Nat, k ≤ 8 ∧ p = .int .i64 ((i : Int) * 8 + (k : Int)) ∧ Hid (J ((List.finRange 8).take k) wr ∧ Kept bi bd d W wr)) (fun p _ => i * 8 + 8 - (intOf p).toNat)
  case atStart => exact ⟨0, by decide, by simp, Lib.hid ⟨HJ.out, HK0.out⟩⟩
  case round =>
    obtain ⟨k, hk, rfl, hR⟩ := hrel
    have HJr := Lib.hid hR.out.1
    have HKr := Lib.hid hR.out.2
    obtain ⟨r1, r2, r3⟩ := HR.out
    have b1 := HKr.out.1.trans r1
    have b2 := HKr.out.2.1.trans r2
    have b3 := HKr.out.2.2.trans r3
    have e1 : wr.cell? ⟨bi, 0, none⟩ = some (.int .i64 (i : Int)) := by simp [World.cell?, b1]
    have e2 : wr.cell? ⟨bd, 0, none⟩ = some (.pointer (some ⟨d, 0, none⟩)) := by simp [World.cell?, b2]
    have e3 : wr.cell? ⟨d, 0, none⟩ = some (.slice (some ⟨g, 0, none⟩) n n) := by simp [World.cell?, b3]
    clear r1 r2 r3 b1 b2 b3 hi hd hdev c1 hR
    by_cases hlt : k < 8
    · have hlt' : (i : Int) * 8 + (k : Int) < ((i : Int) + 1) * 8 := by omega
      have hN : Hid ((List.finRange 8).take (k + 1) = (List.finRange 8).take k ++ [⟨k, hlt⟩]) := Lib.hid (by
        rw [List.take_add_one]; simp [hlt])
      have hy0 := HY.out _ ⟨k, hlt⟩ wr HJr.out (by simp; omega)
      unfold encW wordAt at hy0
      obtain ⟨fn, tmps, assign, body, hy, hR⟩ := hy0
      have ek : ((i : Int) * 8 + (k : Int)).toNat = 8 * i + k := by omega
      have k0 : (0 : Int) ≤ (i : Int) * 8 + (k : Int) := by omega
      have kn : (i : Int) * 8 + (k : Int) < (n : Int) := by omega
      have wk : IntKind.i64.wrap ((i : Int) * 8 + (k : Int)) = (i : Int) * 8 + (k : Int) := IntWalk.i64_in _ ⟨by omega, by omega⟩
      clear HR
      gi_wp2
      refine ⟨fun h => (by cases h), ?_⟩
      refine hR.mono ?_
      have wk1 : IntKind.i64.wrap ((i : Int) * 8 + (k : Int) + 1) = (i : Int) * 8 + (k : Int) + 1 := IntWalk.i64_in _ ⟨by omega, by omega⟩
      clear hR hy
      rintro e W' (⟨rfl, hJ', hkp⟩ | ⟨rfl, hJx'⟩)
      · have HJ' := Lib.hid hJ'
        have HK' := Lib.hid (HKr.out.trans hkp)
        clear hJ' hkp
        gi_wp2
        go_roundw
        case rel => exact ⟨k + 1, by omega, by first | rfl | go_num | (congr 1; omega), Lib.hid ⟨by rw [hN.out]; exact HJ'.out, HK'.out⟩⟩
        case measure => simp [intOf]; omega
      · have HJ' := Lib.hid hJx'
        clear hJx'
        gi_wp2
        refine bodyPost_ret (results_none rfl _ _ _) rfl ?_
        exact ⟨⟨_, rfl⟩, .inr ⟨_, trivial, HJ'.out⟩⟩
    · obtain rfl : k = 8 := by omega
      have hge : ¬ ((i : Int) * 8 + ((8 : Nat) : Int) < ((i : Int) + 1) * 8) := by omega
      have HJ8 := Lib.hid (show J (List.finRange 8) wr by have := HJr.out; rwa [List.take_of_length_le (by simp)] at this)
      clear HJr HKr HR
      gi_wp2
      go_end0
      exact ⟨⟨_, rfl⟩, .inl HJ8.out⟩

/-- 'for c := range d.line(i)': the same, and how many have come is told. -/
theorem range_line2 {m : Nat} {go : Operand} {ps : Array Tmp} {assign body : Code} {Q : Exit → Act → World → Prop} {a : Act} {w : World} (hm : 3 ≤ m)
    {bi bd d g i n : Nat} (hg : a.eval go = .func (.func 103) #[] #[ptr bi, ptr bd]) (hps : ps.size = 1)
    (hi : w.heap[bi]? = some (.cells #[.int .i64 (i : Int)] 3 (0, 0))) (hd : w.heap[bd]? = some (.cells #[ptr d] 29 (0, 0)))
    (hdev : w.heap[d]? = some (.cells #[.slice (some ⟨g, 0, none⟩) n n] 131 (0, 0))) (hlt : 8 * i + 8 ≤ n) (hn : n ≤ 65536)
    {σ : Type} (step : σ → Nat → σ) (s0 : σ) (R : σ → World → Prop) (hR : OwnFrom w.heap.size R) (h0 : R s0 w) (a₁ : Nat → Act)
    (hassign : ∀ (l x : Nat) (W : World) (K : Act → World → Prop), K (a₁ x) W → assign.wpIn (Fence.wide.inRound l) (m - 1 - 1) Tryz.prog (Exit.then K (fun _ _ _ => False)) { tmps := (ps.zip #[wordAt g (8 * i + x)]).foldl (fun t (p, v) => t.setIfInBounds p v) a.tmps, defers := [] } W)
    (hbody : ∀ (l : Nat) (pre : List Nat) (x : Nat) (W : World), pre.length < 8 → x < 8 → R (pre.foldl step s0) W → body.wpIn (Fence.wide.inRound l) (m - 1 - 1) Tryz.prog (fun e _ W' => e = .normal ∧ KeepsOthers W W' ∧ Kept bi bd d W W' ∧ R (step (pre.foldl step s0) x) W') (a₁ x) W)
    (hdone : ∀ (D : Nat) (W : World), w.heap.size ≤ D → R ((List.range 8).foldl step s0) W → W.heap[D]? = some (.deferred (some [])) → Q .normal { a with defers := { target := .collected D, args := #[] } :: a.defers } W) :
    (Code.rangeFunc go ps assign body).wpIn Fence.wide m Tryz.prog Q a w := by
  have hbi := (Array.getElem?_eq_some_iff.1 hi).1
  have hbd := (Array.getElem?_eq_some_iff.1 hd).1
  have hdd := (Array.getElem?_eq_some_iff.1 hdev).1
  refine wpIn_rangeFunc_ownF (α := Fin 8) rfl (by omega) hg trivial (enters_of Tryz.func103 (by kernel_rfl) rfl) (line_stops (m - 1) w bi bd d g i n hi hd hdev hlt hn)
    (fun h k => h.trans k) (Kept.put hbi hbd hdd) (Below.refl _ _) (fun _ => hps.symm)
    (fun (pre : List (Fin 8)) W => R (pre.foldl (fun s (x : Fin 8) => step s x.1) s0) W) (fun _ _ _ => False) (fun pre W W' row hs hg hr => hR (pre.foldl (fun s (x : Fin 8) => step s x.1) s0) W W' row hs hg hr) (fun _ _ _ _ _ hs _ _ => hs) h0 (fun x => a₁ x.1) (fun l x W K hK => hassign l x.1 W K hK) ?_ ?_ ?_
  · intro l pre x W hW hlen
    have hfold : pre.foldl (fun s (x : Fin 8) => step s x.1) s0 = (pre.map (·.1)).foldl step s0 := by rw [List.foldl_map]
    have hb := hbody l (pre.map (·.1)) x.1 W (by simpa using hlen) x.2 (by rw [← hfold]; exact hW)
    rw [← hfold] at hb
    refine wpIn_mono hb ?_
    rintro e a' W' ⟨rfl, h1, h2, h3⟩
    refine ⟨h1, h2, ?_⟩
    show R (List.foldl _ s0 (pre ++ [x])) W'
    rw [List.foldl_append]
    exact h3
  · intro D xs W hD hxs hW hK
    subst hxs
    refine hdone D W hD ?_ hK
    have : (List.finRange 8).foldl (fun s (x : Fin 8) => step s x.1) s0 = (List.range 8).foldl step s0 := rfl
    rw [← this]; exact hW
  · intro D c pre W _ _ h _
    exact h.elim

/-- 'for c := range d.line(i)': each of the line's eight words comes, one behind the other. -/
theorem range_line {m : Nat} {go : Operand} {ps : Array Tmp} {assign body : Code} {Q : Exit → Act → World → Prop} {a : Act} {w : World} (hm : 3 ≤ m)
    {bi bd d g i n : Nat} (hg : a.eval go = .func (.func 103) #[] #[ptr bi, ptr bd]) (hps : ps.size = 1)
    (hi : w.heap[bi]? = some (.cells #[.int .i64 (i : Int)] 3 (0, 0))) (hd : w.heap[bd]? = some (.cells #[ptr d] 29 (0, 0)))
    (hdev : w.heap[d]? = some (.cells #[.slice (some ⟨g, 0, none⟩) n n] 131 (0, 0))) (hlt : 8 * i + 8 ≤ n) (hn : n ≤ 65536)
    {σ : Type} (step : σ → Nat → σ) (s0 : σ) (R : σ → World → Prop) (hR : OwnFrom w.heap.size R) (h0 : R s0 w) (a₁ : Nat → Act)
    (hassign : ∀ (l x : Nat) (W : World) (K : Act → World → Prop), K (a₁ x) W → assign.wpIn (Fence.wide.inRound l) (m - 1 - 1) Tryz.prog (Exit.then K (fun _ _ _ => False)) { tmps := (ps.zip #[wordAt g (8 * i + x)]).foldl (fun t (p, v) => t.setIfInBounds p v) a.tmps, defers := [] } W)
    (hbody : ∀ (l : Nat) (s : σ) (x : Nat) (W : World), x < 8 → R s W → body.wpIn (Fence.wide.inRound l) (m - 1 - 1) Tryz.prog (fun e _ W' => e = .normal ∧ KeepsOthers W W' ∧ Kept bi bd d W W' ∧ R (step s x) W') (a₁ x) W)
    (hdone : ∀ (D : Nat) (W : World), w.heap.size ≤ D → R ((List.range 8).foldl step s0) W → W.heap[D]? = some (.deferred (some [])) → Q .normal { a with defers := { target := .collected D, args := #[] } :: a.defers } W) :
    (Code.rangeFunc go ps assign body).wpIn Fence.wide m Tryz.prog Q a w :=
  range_line2 hm hg hps hi hd hdev hlt hn step s0 R hR h0 a₁ hassign (fun l _ x W _ hx hW => hbody l _ x W hx hW) hdone
end Go.Proofs.YtpdofdloclmbdaaGreat
end
section
/- Package pmem: a line flushed, evicted. -/
-- OPTIONAL
namespace Go.Proofs.YtpdofdloclmbdaaGreat
open Go.RowKit Go.Grommet Go.Shelf
attribute [local go_sem] Oper.semAt_some

theorem line_any (w : World) (d : Nat) (i : Int) : Calls Tryz.prog 72 #[ptr d, .int .i64 i] w fun e w' => e = .returned (.func (.func 103) #[] #[ptr (w.heap.size + 1), ptr w.heap.size]) ∧ w' = (w.alloc (.cells #[ptr d] 29)).alloc (.cells #[.int .i64 i] 3) := by
  unfold ptr
  go_enter Tryz.func72, Tryz.ntmps72
  go_wp2
  go_ret
  exact ⟨rfl, rfl⟩

/-- Behind the two boxes of a line. -/
theorem boxes_new (w : World) (d : Nat) (i : Int) : ∀ w', w' = (w.alloc (.cells #[ptr d] 29)).alloc (.cells #[.int .i64 i] 3) → w'.heap[w.heap.size + 1]? = some (.cells #[.int .i64 i] 3 (0, 0)) ∧ w'.heap[w.heap.size]? = some (.cells #[ptr d] 29 (0, 0)) ∧ w.grownBy w' none ∧ w'.heap.size = w.heap.size + 2 ∧ KeepsOthers w w' := by
  rintro w' rfl
  have h1 := heap_alloc_new (w.alloc (.cells #[ptr d] 29)) (.cells #[.int .i64 i] 3)
  rw [World.size_alloc] at h1
  exact ⟨h1, ((World.grownBy_alloc _ _ none).block _ (by simp) (by simp)).trans (heap_alloc_new w _), grown_trans (World.grownBy_alloc _ _ none) (World.grownBy_alloc _ _ none), by simp, (KeepsOthers.alloc _ _).trans (KeepsOthers.alloc _ _)⟩

theorem DevIs.grown {w w' : World} {d g : Nat} {ws : List PW} (h : DevIs w d g ws) (hg : w.grownBy w' none) : DevIs w' d g ws :=
  ⟨(hg.block _ (Array.getElem?_eq_some_iff.1 h.dev).1 (by simp)).trans h.dev, (hg.block _ (Array.getElem?_eq_some_iff.1 h.row).1 (by simp)).trans h.row, h.ne, h.fits, h.small⟩
theorem DevIs.ownFrom {B : Nat} {d g : Nat} (hd : d < B) (hg : g < B) : OwnFrom B (fun ws W => DevIs W d g ws) := by
  intro s W W' row hs hgr hr
  refine ⟨(hgr.block _ (Array.getElem?_eq_some_iff.1 hs.dev).1 ?_).trans hs.dev, (hgr.block _ (Array.getElem?_eq_some_iff.1 hs.row).1 ?_).trans hs.row, hs.ne, hs.fits, hs.small⟩
  · intro e; have := (hr d e.symm).1; omega
  · intro e; have := (hr g e.symm).1; omega
/-- Old blocks but g stay. -/
theorem Kept.of {bi bd d g : Nat} {W W' : World} (hg : W.grownBy W' (some g)) (h1 : bi < W.heap.size) (h2 : bd < W.heap.size) (h3 : d < W.heap.size) (n1 : bi ≠ g) (n2 : bd ≠ g) (n3 : d ≠ g) : Kept bi bd d W W' :=
  ⟨hg.block _ h1 (by simpa using n1), hg.block _ h2 (by simpa using n2), hg.block _ h3 (by simpa using n3)⟩

theorem modify_set {f : PW → PW} {s : List PW} {k : Nat} {c : PW} (hc : s[k]? = some c) : s.modify k f = s.set k (f c) := by
  apply List.ext_getElem?
  intro j
  rw [List.getElem?_modify]
  by_cases e : k = j
  · subst e; rw [List.getElem?_set_self (List.getElem?_eq_some_iff.1 hc).1, hc]; simp
  · rw [List.getElem?_set_ne e]; simp [e]
theorem pm_set_same {s : List PW} {k : Nat} {c : PW} (hc : s[k]? = some c) : s.set k c = s := by
  apply List.ext_getElem?
  intro j
  by_cases e : k = j
  · subst e; rw [List.getElem?_set_self (List.getElem?_eq_some_iff.1 hc).1, hc]
  · rw [List.getElem?_set_ne e]
/-- Between two words of a line: a device of n words, these now; nothing old but its row has turned. -/
structure LineR (w : World) (d g n : Nat) (s : List PW) (W : World) : Prop where
  dev : DevIs W d g s
  len : s.length = n
  grown : w.grownBy W (some g)
  size : w.heap.size + 2 ≤ W.heap.size
theorem LineR.own {B : Nat} {w : World} {d g n : Nat} (hd : d < B) (hg : g < B) (hB : w.heap.size ≤ B) : OwnFrom B (LineR w d g n) := by
  intro s W W' row hs hgr hr
  exact ⟨DevIs.ownFrom hd hg s W W' row hs.dev hgr hr, hs.len, grown_new hs.grown hgr (fun j e => Nat.le_trans hB (hr j e).1), Nat.le_trans hs.size hgr.size⟩
theorem LineR.round {w W W' : World} {d g n : Nat} {s s' : List PW} (h : LineR w d g n s W) (hgw : g < w.heap.size) (hD' : DevIs W' d g s') (hl' : s'.length = s.length) (hg : W.grownBy W' (some g)) :
    KeepsOthers W W' ∧ Kept (w.heap.size + 1) w.heap.size d W W' ∧ LineR w d g n s' W' := by
  have := h.size
  exact ⟨KeepsOthers.of_grownBy hg (fun j o e ho => by cases e; rw [h.dev.row] at ho; cases ho; rfl), Kept.of hg (by omega) (by omega) (Array.getElem?_eq_some_iff.1 h.dev.dev).1 (by omega) (by omega) h.dev.ne, hD', hl'.trans h.len, grown_trans h.grown hg, Nat.le_trans h.size hg.size⟩
theorem LineR.leave {w W W' : World} {d g n : Nat} {s : List PW} (h : LineR w d g n s W) (k : AllBut w.heap.size W W') : DevIs W' d g s ∧ w.grownBy W' (some g) :=
  ⟨⟨k.cells _ _ _ _ h.dev.dev, k.cells _ _ _ _ h.dev.row, h.dev.ne, h.dev.fits, h.dev.small⟩, k.grown (Nat.le_refl _) h.grown⟩

/-- The line's words, each turned. -/
def lineMap (f : PW → PW) (i : Nat) (ws : List PW) (x : Nat) : List PW := ws.modify (8 * i + x) f
set_option maxHeartbeats 1000000 in
theorem Flush_ok (w : World) (d g : Nat) (ws : List PW) (h : DevIs w d g ws) (i : Nat) (hi : i < ws.length / 8) :
    Calls Tryz.prog 116 #[ptr d, .int .i64 (i : Int)] w fun e w' => e = .returned (.int .i64 0) ∧ DevIs w' d g (turnFrom PW.flush (8 * i) 8 ws) ∧ w.grownBy w' (some g) := by
  have HW := Lib.hid (lines_any w d g ws h)
  have HH := Lib.hid (has_any w d (i : Int) (ws.length / 8))
  have hE : hasE (i : Int) (ws.length / 8) = 0 := by unfold hasE; rw [if_neg (by omega)]
  rw [hE] at HH
  unfold ptr at HW HH ⊢
  refine (callsIn_wide (n := 9)).1 ?_
  refine callsIn_of_wp_marks Tryz.func116 rfl trivial ?_ rfl
  simp only [Tryz.ntmps116, List.size_toArray, List.length_cons, List.length_nil, Nat.reduceAdd, Nat.reduceSub, Array.replicate_succ, Array.replicate_zero, List.push_toArray, List.append_toArray, List.nil_append, List.cons_append]
  have hrow := (Array.getElem?_eq_some_iff.1 h.row).1
  have hdd := (Array.getElem?_eq_some_iff.1 h.dev).1
  gi_wp2_with fail
  refine ⟨trivial, (callsIn_wide.2 HW.out).mono ?_⟩
  rintro e w1 ⟨rfl, rfl⟩
  gi_wp2_with fail
  refine ⟨trivial, (callsIn_wide.2 HH.out).mono ?_⟩
  rintro e w1 ⟨rfl, rfl⟩
  gi_wp2_with fail
  refine ⟨trivial, (callsIn_wide.2 (line_any w1 d i)).mono ?_⟩
  rintro e w2 ⟨rfl, hw2⟩
  obtain ⟨b1, b2, hg2, hs2, hk2⟩ := boxes_new w1 d i w2 hw2
  have hD2 := h.grown hg2
  clear hw2
  gi_wp2_with fail
  refine range_line (by decide) (bi := w1.heap.size + 1) (bd := w1.heap.size) (d := d) (g := g) (i := i) (n := ws.length) rfl rfl b1 b2 hD2.dev (by omega) h.fits
    (lineMap PW.flush i) ws (LineR w1 d g ws.length) (LineR.own (by omega) (by omega) (by omega)) ⟨hD2, rfl, grown_wide hg2, by omega⟩
    (fun x => { tmps := #[ptr d, .int .i64 (i : Int), undef, undef, .int .i64 0, .int .i64 0, wordAt g (8 * i + x), ptr d, .int .i64 (i : Int), ptr d, .int .i64 ((ws.length / 8 : Nat) : Int), .int .i64 0, .int .i64 0, .bool false, undef, ptr d, .int .i64 (i : Int), .func (.func 103) #[] #[ptr (w1.heap.size + 1), ptr w1.heap.size], wordAt g (8 * i + x), undef, undef, undef, undef, undef, undef, undef, undef, undef, undef, undef, undef, undef], defers := [] }) ?assign ?body ?done
  case assign =>
    intro l x W K hK
    gi_wp2
    exact hK
  case body =>
    rintro l s x W hx hL
    have hD := hL.dev
    have hl := hL.len
    obtain ⟨c, hc⟩ : ∃ c, s[8 * i + x]? = some c := ⟨_, List.getElem?_eq_getElem (by omega)⟩
    have hlt := (List.getElem?_eq_some_iff.1 hc).1
    obtain ⟨f0, f1, f2, f3, f4, f5⟩ := hD.get hc
    unfold lineMap
    rw [modify_set hc]
    unfold wordAt ptr
    generalize hk : 8 * i + x = k at hc hlt f0 f1 f2 f3 f4 f5 ⊢
    have HRo := Lib.hid (fun W' s' (a : DevIs W' d g s') (b : s'.length = s.length) (e : W.grownBy W' (some g)) => hL.round hrow a b e)
    cases hb : c.loose with
    | false =>
      rw [hb] at f2
      have hE : Hid (s.set k (PW.flush c) = s) := Lib.hid (by unfold PW.flush; rw [if_neg (by rw [hb]; decide)]; exact pm_set_same hc)
      rw [hE.out]
      have hfin := Lib.hid (HRo.out W s hD rfl (World.grownBy.refl _ _))
      clear HRo hD hL hl hc hE
      gi_wp2
      exact hfin.out
    | true =>
      rw [hb] at f2
      have hgrow : Hid (W.grownBy ((((W.setCell ⟨g, k * 6 + 2, none⟩ (.bool true)).setCell ⟨g, k * 6 + 3, none⟩ (.bool true)).setCell ⟨g, k * 6 + 4, none⟩ (.bool false)).setCell ⟨g, k * 6 + 5, none⟩ (.int .u64 (c.seen : Int))) (some g)) :=
        Lib.hid (grown_trans (grown_trans (grown_trans (grown_setCell _ ⟨g, k * 6 + 2, none⟩ _) (grown_setCell _ ⟨g, k * 6 + 3, none⟩ _)) (grown_setCell _ ⟨g, k * 6 + 4, none⟩ _)) (grown_setCell _ ⟨g, k * 6 + 5, none⟩ _))
      have hdev : Hid (DevIs ((((W.setCell ⟨g, k * 6 + 2, none⟩ (.bool true)).setCell ⟨g, k * 6 + 3, none⟩ (.bool true)).setCell ⟨g, k * 6 + 4, none⟩ (.bool false)).setCell ⟨g, k * 6 + 5, none⟩ (.int .u64 (c.seen : Int))) d g (s.set k c.flush)) := Lib.hid (by
        have hsm := hD.of hc
        have d2 := hD.put (c' := { c with loose := true }) hc 2 (by decide) (.bool true) rfl hsm
        have d3 := d2.put (k := k) (c := { c with loose := true }) (c' := { c with loose := true, flushed := true }) (by simp [hlt]) 3 (by decide) (.bool true) rfl hsm
        have d4 := d3.put (k := k) (c := { c with loose := true, flushed := true }) (c' := { c with loose := true, flushed := true, again := false }) (by simp [hlt]) 4 (by decide) (.bool false) rfl hsm
        have d5 := d4.put (k := k) (c := { c with loose := true, flushed := true, again := false }) (c' := c.flush) (by simp [hlt]) 5 (by decide) (.int .u64 (c.seen : Int)) (by unfold PW.flush; rw [if_pos hb]; rfl) (PW.flush_small hsm)
        rw [List.set_set, List.set_set, List.set_set] at d5
        exact d5)
      have hfin := Lib.hid (HRo.out _ _ hdev.out (by simp) hgrow.out)
      have z2 := hD.free (k * 6 + 2)
      have z3 := hD.free (k * 6 + 3)
      have z4 := hD.free (k * 6 + 4)
      have z5 := hD.free (k * 6 + 5)
      generalize s.set k c.flush = s' at hfin ⊢
      clear HRo hD hL hl hc hdev hgrow
      gi_wp2
      exact hfin.out
  case done =>
    rintro D W hD hL hK
    gi_wp2
    refine leaves_marks (B := w1.heap.size) _ (D + 1) W ⟨D, rfl, by omega, by omega, hK, trivial⟩ ?_
    intro w' hw'
    exact ⟨_, results_tmp rfl _ _ _, rfl, hL.leave hw'⟩
end Go.Proofs.YtpdofdloclmbdaaGreat
end
section
/- Package pmem: a line evicted. -/
-- OPTIONAL
namespace Go.Proofs.YtpdofdloclmbdaaGreat
open Go.RowKit Go.Grommet Go.Shelf
attribute [local go_sem] Oper.semAt_some

set_option maxHeartbeats 1000000 in
theorem Evict_ok (w : World) (d g : Nat) (ws : List PW) (h : DevIs w d g ws) (i : Nat) (hi : i < ws.length / 8) :
    Calls Tryz.prog 19 #[ptr d, .int .i64 (i : Int)] w fun e w' => e = .returned (.int .i64 0) ∧ DevIs w' d g (turnFrom PW.evict (8 * i) 8 ws) ∧ w.grownBy w' (some g) := by
  have HW := Lib.hid (lines_any w d g ws h)
  have HH := Lib.hid (has_any w d (i : Int) (ws.length / 8))
  have hE : hasE (i : Int) (ws.length / 8) = 0 := by unfold hasE; rw [if_neg (by omega)]
  rw [hE] at HH
  unfold ptr at HW HH ⊢
  refine (callsIn_wide (n := 9)).1 ?_
  refine callsIn_of_wp_marks Tryz.func19 rfl trivial ?_ rfl
  simp only [Tryz.ntmps19, List.size_toArray, List.length_cons, List.length_nil, Nat.reduceAdd, Nat.reduceSub, Array.replicate_succ, Array.replicate_zero, List.push_toArray, List.append_toArray, List.nil_append, List.cons_append]
  have hrow := (Array.getElem?_eq_some_iff.1 h.row).1
  have hdd := (Array.getElem?_eq_some_iff.1 h.dev).1
  gi_wp2_with fail
  refine ⟨trivial, (callsIn_wide.2 HW.out).mono ?_⟩
  rintro e w1 ⟨rfl, rfl⟩
  gi_wp2_with fail
  refine ⟨trivial, (callsIn_wide.2 HH.out).mono ?_⟩
  rintro e w1 ⟨rfl, rfl⟩
  gi_wp2_with fail
  refine ⟨trivial, (callsIn_wide.2 (line_any w1 d i)).mono ?_⟩
  rintro e w2 ⟨rfl, hw2⟩
  obtain ⟨b1, b2, hg2, hs2, hk2⟩ := boxes_new w1 d i w2 hw2
  have hD2 := h.grown hg2
  clear hw2
  gi_wp2_with fail
  refine range_line (by decide) (bi := w1.heap.size + 1) (bd := w1.heap.size) (d := d) (g := g) (i := i) (n := ws.length) rfl rfl b1 b2 hD2.dev (by omega) h.fits
    (lineMap PW.evict i) ws (LineR w1 d g ws.length) (LineR.own (by omega) (by omega) (by omega)) ⟨hD2, rfl, grown_wide hg2, by omega⟩
    (fun x => { tmps := #[ptr d, .int .i64 (i : Int), undef, undef, .int .i64 0, .int .i64 0, wordAt g (8 * i + x), ptr d, .int .i64 (i : Int), ptr d, .int .i64 ((ws.length / 8 : Nat) : Int), .int .i64 0, .int .i64 0, .bool false, undef, ptr d, .int .i64 (i : Int), .func (.func 103) #[] #[ptr (w1.heap.size + 1), ptr w1.heap.size], wordAt g (8 * i + x), undef, undef, undef, undef, undef, undef, undef, undef, undef, undef, undef], defers := [] }) ?assign ?body ?done
  case assign =>
    intro l x W K hK
    gi_wp2
    exact hK
  case body =>
    rintro l s x W hx hL
    have hD := hL.dev
    have hl := hL.len
    obtain ⟨c, hc⟩ : ∃ c, s[8 * i + x]? = some c := ⟨_, List.getElem?_eq_getElem (by omega)⟩
    have hlt := (List.getElem?_eq_some_iff.1 hc).1
    obtain ⟨f0, f1, f2, f3, f4, f5⟩ := hD.get hc
    unfold lineMap
    rw [modify_set hc]
    unfold wordAt ptr
    generalize hk : 8 * i + x = k at hc hlt f0 f1 f2 f3 f4 f5 ⊢
    have HRo := Lib.hid (fun W' s' (a : DevIs W' d g s') (b : s'.length = s.length) (e : W.grownBy W' (some g)) => hL.round hrow a b e)
    cases hb : c.loose with
    | false =>
      rw [hb] at f2
      have hE : Hid (s.set k (PW.evict c) = s) := Lib.hid (by unfold PW.evict; rw [if_neg (by rw [hb]; decide)]; exact pm_set_same hc)
      rw [hE.out]
      have hfin := Lib.hid (HRo.out W s hD rfl (World.grownBy.refl _ _))
      clear HRo hD hL hl hc hE
      gi_wp2
      exact hfin.out
    | true =>
      rw [hb] at f2
      have hsm := hD.of hc
      have HS := Lib.hid (settle_any W d g s hD k c hc c.seen hsm.2.1)
      have hE2 : Hid (s.set k (PW.evict c) = s.set k (settled c.seen c.seen)) := Lib.hid (by unfold PW.evict; rw [if_pos hb]; rfl)
      rw [hE2.out]
      have hle : (s.set k (settled c.seen c.seen)).length = s.length := by simp
      unfold wordAt at HS
      generalize s.set k (settled c.seen c.seen) = s' at HS hle ⊢
      clear hE2 hD hL hl hc
      gi_wp2_with fail
      refine ⟨trivial, (CallsIn.inRound l (callsIn_wide.2 HS.out)).mono ?_⟩
      rintro e W' ⟨⟨v, rfl⟩, hD', hg'⟩
      have hfin := Lib.hid (HRo.out _ _ hD' hle hg')
      clear HRo HS hD' hg'
      gi_wp2
      exact hfin.out
  case done =>
    rintro D W hD hL hK
    gi_wp2
    refine leaves_marks (B := w1.heap.size) _ (D + 1) W ⟨D, rfl, by omega, by omega, hK, trivial⟩ ?_
    intro w' hw'
    exact ⟨_, results_tmp rfl _ _ _, rfl, hL.leave hw'⟩
end Go.Proofs.YtpdofdloclmbdaaGreat
end
section
/- Package pmem: a fence. -/
-- OPTIONAL
namespace Go.Proofs.YtpdofdloclmbdaaGreat
open Go.RowKit Go.Grommet Go.Shelf
attribute [local go_sem] Oper.semAt_some

/-- Between two lines: so many lines' words were turned; the marks of those lines stand. -/
structure LinesR (f : PW → PW) (w : World) (d g : Nat) (ws : List PW) (j : Nat) (ds : List Deferred) (W : World) : Prop where
  dev : DevIs W d g (turnFrom f 0 (8 * j) ws)
  grown : w.grownBy W (some g)
  marks : Marks w.heap.size W W.heap.size ds

/-- Between two words of a line, within lines: b is where the line's boxes begin. -/
structure LineL (w : World) (d g n b : Nat) (ds : List Deferred) (s : List PW) (W : World) : Prop where
  dev : DevIs W d g s
  len : s.length = n
  grown : w.grownBy W (some g)
  size : b + 2 ≤ W.heap.size
  marks : Marks w.heap.size W (b + 2) ds
theorem LineL.own {w : World} {d g n b : Nat} {ds : List Deferred} (hd : d < w.heap.size) (hg : g < w.heap.size) (hb : w.heap.size ≤ b) : OwnFrom (b + 2) (LineL w d g n b ds) := by
  intro s W W' row hs hgr hr
  exact ⟨DevIs.ownFrom (B := b + 2) (by omega) (by omega) s W W' row hs.dev hgr hr, hs.len, grown_new hs.grown hgr (fun j e => by have := (hr j e).1; omega), Nat.le_trans hs.size hgr.size, Marks.ownFrom (U := b + 2) s W W' row hs.marks hgr hr⟩
theorem LineL.round {w W W' : World} {d g n b : Nat} {ds : List Deferred} {s s' : List PW} (h : LineL w d g n b ds s W) (hgw : g < w.heap.size) (hb : w.heap.size ≤ b) (hD' : DevIs W' d g s') (hl' : s'.length = s.length) (hg : W.grownBy W' (some g)) :
    KeepsOthers W W' ∧ Kept (b + 1) b d W W' ∧ LineL w d g n b ds s' W' := by
  have := h.size
  have hk : KeepsOthers W W' := KeepsOthers.of_grownBy hg (fun j o e ho => by cases e; rw [h.dev.row] at ho; cases ho; rfl)
  exact ⟨hk, Kept.of hg (by omega) (by omega) (Array.getElem?_eq_some_iff.1 h.dev.dev).1 (by omega) (by omega) h.dev.ne, hD', hl'.trans h.len, grown_trans h.grown hg, Nat.le_trans h.size hg.size, h.marks.keeps hk⟩
theorem LineL.next {f : PW → PW} {w W : World} {d g n b j D : Nat} {ds : List Deferred} {ws : List PW} (h : LineL w d g n b ds ((List.range 8).foldl (lineMap f j) (turnFrom f 0 (8 * j) ws)) W) (hb : w.heap.size ≤ b) (hD : b + 2 ≤ D) (hK : W.heap[D]? = some (.deferred (some []))) :
    LinesR f w d g ws (j + 1) ({ target := .collected D, args := #[] } :: ds) W :=
  ⟨by rw [← turnFrom_line]; exact h.dev, h.grown, D, rfl, by omega, (Array.getElem?_eq_some_iff.1 hK).1, hK, h.marks.up hD⟩
theorem LinesR.leave {f : PW → PW} {w W W' : World} {d g j : Nat} {ds : List Deferred} {ws : List PW} (h : LinesR f w d g ws j ds W) (hj : ws.length ≤ 8 * j) (k : AllBut w.heap.size W W') : DevIs W' d g (ws.map f) ∧ w.grownBy W' (some g) := by
  rw [← turnFrom_all f ws (8 * j) hj]
  exact ⟨⟨k.cells _ _ _ _ h.dev.dev, k.cells _ _ _ _ h.dev.row, h.dev.ne, h.dev.fits, h.dev.small⟩, k.grown (Nat.le_refl _) h.grown⟩

set_option maxHeartbeats 2000000 in
theorem Fence_ok (w : World) (d g : Nat) (ws : List PW) (h : DevIs w d g ws) (N : Nat) (hN : ws.length = 8 * N) :
    Calls Tryz.prog 117 #[ptr d] w fun e w' => e = .returned (.int .i64 0) ∧ DevIs w' d g (ws.map PW.fence) ∧ w.grownBy w' (some g) := by
  have HW := Lib.hid (lines_any w d g ws h)
  have hf := h.fits
  have hN8 : ws.length / 8 = N := by omega
  rw [hN8] at HW
  have hrow := (Array.getElem?_eq_some_iff.1 h.row).1
  have hdd := (Array.getElem?_eq_some_iff.1 h.dev).1
  unfold ptr at HW ⊢
  refine (callsIn_wide (n := 9)).1 ?_
  refine callsIn_of_wp_marks Tryz.func117 rfl trivial ?_ rfl
  simp only [Tryz.ntmps117, List.size_toArray, List.length_cons, List.length_nil, Nat.reduceAdd, Nat.reduceSub, Array.replicate_succ, Array.replicate_zero, List.push_toArray, List.append_toArray, List.nil_append, List.cons_append]
  gi_wp2_with fail
  refine ⟨trivial, (callsIn_wide.2 HW.out).mono ?_⟩
  rintro e w1 ⟨rfl, rfl⟩
  gi_wp2_with fail
  refine wpIn_loop (fun a' w' => ∃ (j : Nat) (u3 u11 u12 u13 u14 u15 u39 : Value) (ds : List Deferred), (j ≤ N ∧ LinesR PW.fence w1 d g ws j ds w') ∧ a' = { tmps := #[.pointer (some ⟨d, 0, none⟩), undef, .int .i64 0, u3, undef, undef, .pointer (some ⟨d, 0, none⟩), .bool false, .pointer (some ⟨d, 0, none⟩), .int .i64 (N : Int), .int .i64 (j : Int), u11, u12, u13, u14, u15, undef, undef, undef, undef, undef, undef, undef, undef, undef, undef, undef, undef, undef, undef, undef, undef, undef, undef, undef, undef, undef, undef, undef, u39], defers := ds })
    (fun a' _ => N - (intOf (a'.tmps.getD 10 undef)).toNat) ?start ?round
  case start => exact ⟨0, _, _, _, _, _, _, _, [], ⟨Nat.zero_le _, h, World.grownBy.refl _ _, trivial⟩, rfl⟩
  case round =>
    rintro _ wr ⟨j, u3, u11, u12, u13, u14, u15, u39, ds, ⟨hj, hR⟩, rfl⟩
    have j0 : (0 : Int) ≤ (j : Int) := by omega
    by_cases hlt : j < N
    · have hlt' : (j : Int) < (N : Int) := by omega
      have hle := hR.grown.size
      have wj : IntKind.i64.wrap ((j : Int) + 1) = (j : Int) + 1 := IntWalk.i64_in _ ⟨by omega, by omega⟩
      gi_wp2_with fail
      refine ⟨trivial, (callsIn_wide.2 (line_any wr d j)).mono ?_⟩
      rintro e w2 ⟨rfl, hw2⟩
      obtain ⟨b1, b2, hg2, hs2, hk2⟩ := boxes_new wr d j w2 hw2
      have hD2 := hR.dev.grown hg2
      have hM2 := (hR.marks.keeps hk2).up (by omega : wr.heap.size ≤ w2.heap.size)
      clear hw2
      gi_wp2_with fail
      refine range_line (by decide) (bi := wr.heap.size + 1) (bd := wr.heap.size) (d := d) (g := g) (i := j) (n := ws.length) rfl rfl b1 b2 (by have := hD2.dev; rwa [turnFrom_len] at this) (by omega) hf
        (lineMap PW.fence j) (turnFrom PW.fence 0 (8 * j) ws) (LineL w1 d g ws.length wr.heap.size ds) (by rw [hs2]; exact LineL.own hdd hrow hle) ⟨hD2, turnFrom_len _ _ _ _, grown_new hR.grown hg2 (fun _ e => by cases e), by omega, by rw [← hs2]; exact hM2⟩
        (fun x => { tmps := #[ptr d, undef, .int .i64 0, .int .i64 (j : Int), wordAt g (8 * j + x), undef, ptr d, .bool false, ptr d, .int .i64 (N : Int), .int .i64 (j : Int), .bool true, .int .i64 (j : Int), ptr d, .int .i64 (j : Int), .func (.func 103) #[] #[ptr (wr.heap.size + 1), ptr wr.heap.size], wordAt g (8 * j + x), undef, undef, undef, undef, undef, undef, undef, undef, undef, undef, undef, undef, undef, undef, undef, undef, undef, undef, undef, undef, undef, undef, u39], defers := [] }) ?assign ?body ?done
      case assign =>
        intro l x W K hK
        gi_wp2
        exact hK
      case body =>
        rintro l s x W hx hL
        have hD := hL.dev
        have hl := hL.len
        obtain ⟨c, hc⟩ : ∃ c, s[8 * j + x]? = some c := ⟨_, List.getElem?_eq_getElem (by omega)⟩
        have hlt := (List.getElem?_eq_some_iff.1 hc).1
        obtain ⟨f0, f1, f2, f3, f4, f5⟩ := hD.get hc
        unfold lineMap
        rw [modify_set hc]
        unfold wordAt ptr
        generalize hk : 8 * j + x = k at hc hlt f0 f1 f2 f3 f4 f5 ⊢
        have HRo := Lib.hid (fun W' s' (a : DevIs W' d g s') (b : s'.length = s.length) (e : W.grownBy W' (some g)) => hL.round hrow hle a b e)
        cases hb : c.flushed with
        | false =>
          rw [hb] at f3
          have hE : Hid (s.set k (PW.fence c) = s) := Lib.hid (by unfold PW.fence; rw [if_neg (by rw [hb]; decide)]; exact pm_set_same hc)
          rw [hE.out]
          have hfin := Lib.hid (HRo.out W s hD rfl (World.grownBy.refl _ _))
          clear HRo hD hL hl hc hE hN
          gi_wp2
          exact hfin.out
        | true =>
          rw [hb] at f3
          have hsm := hD.of hc
          have HS := Lib.hid (settle_any W d g s hD k c hc c.kept hsm.2.2)
          have hE2 : Hid (s.set k (PW.fence c) = s.set k ⟨c.kept, c.seen, c.again, false, false, 0⟩) := Lib.hid (by unfold PW.fence; rw [if_pos hb])
          rw [hE2.out]
          unfold wordAt at HS
          have HP := Lib.hid (fun (W' : World) (hD' : DevIs W' d g (s.set k (settled c.kept c.seen))) => show DevIs (W'.setCell ⟨g, k * 6 + 2, none⟩ (.bool c.again)) d g (s.set k ⟨c.kept, c.seen, c.again, false, false, 0⟩) from by
            have := hD'.put (k := k) (c := settled c.kept c.seen) (c' := ⟨c.kept, c.seen, c.again, false, false, 0⟩) (by simp [hlt]) 2 (by decide) (.bool c.again) rfl ⟨hsm.2.2, hsm.2.1, by show 0 < _; decide⟩
            rwa [List.set_set] at this)
          have HF := Lib.hid (fun (W' : World) (hD' : DevIs W' d g (s.set k (settled c.kept c.seen))) => show W'.cell? ⟨g, k * 6 + 2, none⟩ = some (.bool false) ∧ W'.frozen? ⟨g, k * 6 + 2, none⟩ = false from ⟨(hD'.get (k := k) (c := settled c.kept c.seen) (by simp [hlt])).2.2.1, hD'.free _⟩)
          have hle2 : (s.set k ⟨c.kept, c.seen, c.again, false, false, 0⟩).length = s.length := by simp
          generalize s.set k (settled c.kept c.seen) = s1 at HS HP HF
          generalize s.set k ⟨c.kept, c.seen, c.again, false, false, 0⟩ = s' at HP hle2 ⊢
          clear hE2 hD hL hl hc hsm hN
          gi_wp2_with fail
          refine ⟨trivial, (CallsIn.inRound l (callsIn_wide.2 HS.out)).mono ?_⟩
          rintro e W' ⟨⟨v, rfl⟩, hD', hg'⟩
          obtain ⟨q1, q2⟩ := HF.out W' hD'
          have hfin := Lib.hid (HRo.out _ _ (HP.out W' hD') hle2 (grown_trans hg' (grown_setCell W' ⟨g, k * 6 + 2, none⟩ _)))
          clear HRo HS HP HF hD' hg'
          gi_wp2
          exact hfin.out
      case done =>
        rintro D W hD hL hK
        have hN := Lib.hid (hL.next hle (by rw [← hs2]; exact hD) hK)
        gi_wp2
        refine ⟨⟨j + 1, _, _, _, _, _, _, _, _, ⟨by omega, hN.out⟩, rfl⟩, ?_⟩
        simp [intOf]; omega
    · obtain rfl : j = N := by omega
      have hlt' : ¬ (j : Int) < (j : Int) := by omega
      gi_wp2
      refine leaves_marks ds _ wr hR.marks ?_
      intro w' hw'
      exact ⟨_, results_tmp rfl _ _ _, rfl, hR.leave (by omega) hw'⟩
end Go.Proofs.YtpdofdloclmbdaaGreat
end
section
/- Package pmem: how many words are loose. -/
-- OPTIONAL
namespace Go.Proofs.YtpdofdloclmbdaaGreat
open Go.RowKit Go.Grommet Go.Shelf
attribute [local go_sem] Oper.semAt_some

/-- One more, if it is loose (it goes round). -/
def looseStep (s : Int) (c : PW) : Int := if c.loose then IntKind.i64.wrap (s + 1) else s
theorem loose_fold : ∀ (ws : List PW) (s : Nat), s + ws.length ≤ 1000000 → ws.foldl looseStep (s : Int) = ((s + looseOf ws : Nat) : Int)
  | [], s, _ => by simp [looseOf]
  | c :: ws, s, h => by
    rw [List.length_cons] at h
    rw [List.foldl_cons]
    cases hc : c.loose with
    | false =>
      have h1 : looseStep (s : Int) c = (s : Int) := by unfold looseStep; rw [if_neg (by simp [hc])]
      have h2 : looseOf (c :: ws) = looseOf ws := by unfold looseOf; rw [List.filter_cons_of_neg (by simp [hc])]
      rw [h1, h2]; exact loose_fold ws s (by omega)
    | true =>
      have h1 : looseStep (s : Int) c = ((s + 1 : Nat) : Int) := by unfold looseStep; rw [if_pos hc, IntWalk.i64_in _ ⟨by omega, by omega⟩]; rfl
      have h2 : looseOf (c :: ws) = looseOf ws + 1 := by unfold looseOf; rw [List.filter_cons_of_pos (by simp [hc]), List.length_cons]
      rw [h1, h2, loose_fold ws (s + 1) (by omega)]; congr 1; omega

structure CountL (w : World) (d g b : Nat) (ws : List PW) (ds : List Deferred) (s : Int) (W : World) : Prop where
  dev : DevIs W d g ws
  box : W.heap[w.heap.size]? = some (.cells #[.int .i64 s] 3 (0, 0))
  grown : w.grownBy W none
  size : b + 2 ≤ W.heap.size
  marks : Marks w.heap.size W (b + 2) ds
theorem CountL.own {w : World} {d g b : Nat} {ws : List PW} {ds : List Deferred} (hd : d < w.heap.size) (hg : g < w.heap.size) (hb : w.heap.size < b) : OwnFrom (b + 2) (CountL w d g b ws ds) := by
  intro s W W' row hs hgr hr
  exact ⟨DevIs.ownFrom (B := b + 2) (by omega) (by omega) ws W W' row hs.dev hgr hr, (hgr.block _ (Array.getElem?_eq_some_iff.1 hs.box).1 (by intro e; have := (hr _ e.symm).1; omega)).trans hs.box, grown_new hs.grown hgr (fun j e => by have := (hr j e).1; omega), Nat.le_trans hs.size hgr.size, Marks.ownFrom (U := b + 2) s W W' row hs.marks hgr hr⟩
theorem CountL.step {w W : World} {d g b : Nat} {ws : List PW} {ds : List Deferred} {s : Int} (h : CountL w d g b ws ds s W) (hd : d < w.heap.size) (hgw : g < w.heap.size) (hb : w.heap.size < b) (t : Int) :
    KeepsOthers W (W.setCell ⟨w.heap.size, 0, none⟩ (.int .i64 t)) ∧ Kept (b + 1) b d W (W.setCell ⟨w.heap.size, 0, none⟩ (.int .i64 t)) ∧ CountL w d g b ws ds t (W.setCell ⟨w.heap.size, 0, none⟩ (.int .i64 t)) := by
  have := h.size
  have hg := grown_setCell W ⟨w.heap.size, 0, none⟩ (.int .i64 t)
  have hk := KeepsOthers.setCell W ⟨w.heap.size, 0, none⟩ (.int .i64 t)
  refine ⟨hk, Kept.of (g := w.heap.size) hg (by omega) (by omega) (Array.getElem?_eq_some_iff.1 h.dev.dev).1 (by omega) (by omega) (by omega), ⟨?_, ?_, h.dev.ne, h.dev.fits, h.dev.small⟩, ?_, ?_, Nat.le_trans h.size hg.size, h.marks.keeps hk⟩
  · exact (hg.block _ (Array.getElem?_eq_some_iff.1 h.dev.dev).1 (by simp; omega)).trans h.dev.dev
  · exact (hg.block _ (Array.getElem?_eq_some_iff.1 h.dev.row).1 (by simp; omega)).trans h.dev.row
  · have := heap_setCell_at (o := 0) h.box (.int .i64 t); simpa using this
  · exact grown_new h.grown hg (fun j e => by cases e; exact Nat.le_refl _)

set_option maxHeartbeats 2000000 in
theorem Loose_any (w : World) (d g : Nat) (ws : List PW) (h : DevIs w d g ws) (N : Nat) (hN : ws.length = 8 * N) :
    Calls Tryz.prog 41 #[ptr d] w fun e w' => e = .returned (.int .i64 (looseOf ws : Int)) ∧ w.grownBy w' none := by
  have hf := h.fits
  have hN8 : ws.length / 8 = N := by omega
  have hrow := (Array.getElem?_eq_some_iff.1 h.row).1
  have hdd := (Array.getElem?_eq_some_iff.1 h.dev).1
  have hend := Lib.hid (loose_fold ws 0 (by omega))
  have hg0 := World.grownBy_alloc w (.cells #[.int .i64 0] 3) none
  have h0 := h.grown hg0
  have hbox := heap_alloc_new w (.cells #[.int .i64 0] 3)
  have HW := Lib.hid (lines_any _ d g ws h0)
  have hc0 : (w.alloc (.cells #[.int .i64 0] 3)).cell? ⟨w.heap.size, 0, none⟩ = some (.int .i64 0) := by unfold World.cell?; rw [hbox]; rfl
  rw [hN8] at HW
  unfold ptr at HW ⊢
  refine (callsIn_wide (n := 9)).1 ?_
  refine callsIn_of_wp_marks Tryz.func41 rfl trivial ?_ rfl
  simp only [Tryz.ntmps41, List.size_toArray, List.length_cons, List.length_nil, Nat.reduceAdd, Nat.reduceSub, Array.replicate_succ, Array.replicate_zero, List.push_toArray, List.append_toArray, List.nil_append, List.cons_append]
  gi_wp2_with fail
  generalize w.alloc (.cells #[.int .i64 0] 3) = wa at hg0 h0 hbox HW hc0 ⊢
  have hsa : w.heap.size < wa.heap.size := (Array.getElem?_eq_some_iff.1 hbox).1
  refine ⟨trivial, (callsIn_wide.2 HW.out).mono ?_⟩
  rintro e w1 ⟨rfl, rfl⟩
  gi_wp2_with fail
  refine wpIn_loop (fun a' w' => ∃ (j : Nat) (u4 u9 u10 u11 u12 u13 u22 : Value) (ds : List Deferred), (j ≤ N ∧ DevIs w' d g ws ∧ w'.heap[w.heap.size]? = some (.cells #[.int .i64 (gather looseStep ws 0 (8 * j) 0)] 3 (0, 0)) ∧ w.grownBy w' none ∧ Marks w.heap.size w' w'.heap.size ds) ∧ a' = { tmps := #[.pointer (some ⟨d, 0, none⟩), undef, .int .i64 0, .pointer (some ⟨w.heap.size, 0, none⟩), u4, undef, .pointer (some ⟨d, 0, none⟩), .int .i64 (N : Int), .int .i64 (j : Int), u9, u10, u11, u12, u13, undef, undef, undef, undef, undef, undef, undef, undef, u22, undef], defers := ds })
    (fun a' _ => N - (intOf (a'.tmps.getD 8 undef)).toNat) ?start ?round
  case start => exact ⟨0, _, _, _, _, _, _, _, [], ⟨Nat.zero_le _, h0, hbox, hg0, trivial⟩, rfl⟩
  case round =>
    rintro _ wr ⟨j, u4, u9, u10, u11, u12, u13, u22, ds, ⟨hj, hD, hB, hG, hM⟩, rfl⟩
    have j0 : (0 : Int) ≤ (j : Int) := by omega
    have hBs := (Array.getElem?_eq_some_iff.1 hB).1
    by_cases hlt : j < N
    · have hlt' : (j : Int) < (N : Int) := by omega
      have wj : IntKind.i64.wrap ((j : Int) + 1) = (j : Int) + 1 := IntWalk.i64_in _ ⟨by omega, by omega⟩
      gi_wp2_with fail
      refine ⟨trivial, (callsIn_wide.2 (line_any wr d j)).mono ?_⟩
      rintro e w2 ⟨rfl, hw2⟩
      obtain ⟨b1, b2, hg2, hs2, hk2⟩ := boxes_new wr d j w2 hw2
      have hD2 := hD.grown hg2
      have hM2 := (hM.keeps hk2).up (by omega : wr.heap.size ≤ w2.heap.size)
      have hB2 := (hg2.block _ hBs (by simp)).trans hB
      clear hw2
      gi_wp2_with fail
      refine range_line (by decide) (bi := wr.heap.size + 1) (bd := wr.heap.size) (d := d) (g := g) (i := j) (n := ws.length) rfl rfl b1 b2 hD2.dev (by omega) hf
        (fun s x => looseStep s (ws.getD (8 * j + x) PW.nought)) (gather looseStep ws 0 (8 * j) 0) (CountL w d g wr.heap.size ws ds) (by rw [hs2]; exact CountL.own hdd hrow hBs) ⟨hD2, hB2, grown_trans hG hg2, by omega, by rw [← hs2]; exact hM2⟩
        (fun x => { tmps := #[ptr d, undef, .int .i64 0, ptr w.heap.size, .int .i64 (j : Int), wordAt g (8 * j + x), ptr d, .int .i64 (N : Int), .int .i64 (j : Int), .bool true, .int .i64 (j : Int), ptr d, .int .i64 (j : Int), .func (.func 103) #[] #[ptr (wr.heap.size + 1), ptr wr.heap.size], wordAt g (8 * j + x), undef, undef, undef, undef, undef, undef, undef, u22, undef], defers := [] }) ?assign ?body ?done
      case assign =>
        intro l x W K hK
        gi_wp2
        exact hK
      case body =>
        rintro l s x W hx hL
        have hc : ws[8 * j + x]? = some (ws.getD (8 * j + x) PW.nought) := by
          rw [List.getD_eq_getElem?_getD, List.getElem?_eq_getElem (by omega : 8 * j + x < ws.length)]; rfl
        obtain ⟨f0, f1, f2, f3, f4, f5⟩ := hL.dev.get hc
        have cB : W.cell? ⟨w.heap.size, 0, none⟩ = some (.int .i64 s) := by unfold World.cell?; rw [hL.box]; rfl
        have zB : W.frozen? ⟨w.heap.size, 0, none⟩ = false := by simp [World.frozen?, hL.box]
        have hself := Lib.hid (show KeepsOthers W W ∧ Kept (wr.heap.size + 1) wr.heap.size d W W ∧ CountL w d g wr.heap.size ws ds s W from ⟨KeepsOthers.refl _, ⟨rfl, rfl, rfl⟩, hL⟩)
        have hst := Lib.hid (hL.step hdd hrow hBs (IntKind.i64.wrap (s + 1)))
        unfold wordAt ptr
        generalize hk : 8 * j + x = k at hc f0 f1 f2 f3 f4 f5 ⊢
        generalize ws.getD k PW.nought = c at hc f0 f1 f2 f3 f4 f5 ⊢
        cases hb : c.loose with
        | false =>
          rw [hb] at f2
          have hE : Hid (looseStep s c = s) := Lib.hid (by unfold looseStep; rw [if_neg (by simp [hb])])
          rw [hE.out]
          clear hL hc hE hN
          gi_wp2
          exact hself.out
        | true =>
          rw [hb] at f2
          have hE : Hid (looseStep s c = IntKind.i64.wrap (s + 1)) := Lib.hid (by unfold looseStep; rw [if_pos hb])
          rw [hE.out]
          obtain ⟨T, hT⟩ : ∃ T, IntKind.i64.wrap (s + 1) = T := ⟨_, rfl⟩
          rw [hT] at hst ⊢
          clear hL hc hE hN
          gi_wp2
          exact hst.out
      case done =>
        rintro D W hD3 hL hK
        have hline := Lib.hid (gather_line looseStep ws j 0)
        have hN2 := Lib.hid (show DevIs W d g ws ∧ W.heap[w.heap.size]? = some (.cells #[.int .i64 (gather looseStep ws 0 (8 * (j + 1)) 0)] 3 (0, 0)) ∧ w.grownBy W none ∧ Marks w.heap.size W W.heap.size ({ target := .collected D, args := #[] } :: ds) from
          ⟨hL.dev, by rw [← hline.out]; exact hL.box, hL.grown, D, rfl, by omega, (Array.getElem?_eq_some_iff.1 hK).1, hK, hL.marks.up (by omega)⟩)
        gi_wp2
        refine ⟨⟨j + 1, _, _, _, _, _, _, _, _, ⟨by omega, hN2.out⟩, rfl⟩, ?_⟩
        simp [intOf]; omega
    · obtain rfl : j = N := by omega
      have hlt' : ¬ (j : Int) < (j : Int) := by omega
      have cB : wr.cell? ⟨w.heap.size, 0, none⟩ = some (.int .i64 (gather looseStep ws 0 (8 * j) 0)) := by unfold World.cell?; rw [hB]; rfl
      rw [gather_all looseStep ws 0 (8 * j) hN.symm] at cB
      have hend' : ws.foldl looseStep 0 = (looseOf ws : Int) := by have := hend.out; rw [Nat.zero_add] at this; exact this
      rw [hend'] at cB
      clear hend hend'
      gi_wp2
      refine leaves_marks ds _ wr hM ?_
      intro w' hw'
      exact ⟨_, results_tmp rfl _ _ _, rfl, hw'.grown (Nat.le_refl _) hG⟩
end Go.Proofs.YtpdofdloclmbdaaGreat
end
section
/- Package pmem: all that is sure, all that is seen. -/
-- OPTIONAL
namespace Go.Proofs.YtpdofdloclmbdaaGreat
open Go.RowKit Go.Grommet Go.Shelf
attribute [local go_sem] Oper.semAt_some

theorem theSure_any (w : World) (d g : Nat) (ws : List PW) (h : DevIs w d g ws) (k : Nat) (c : PW) (hc : ws[k]? = some c) :
    Calls Tryz.prog 80 #[wordAt g k] w fun e w' => e = .returned (.int .u64 (c.sure : Int)) ∧ w' = w := by
  obtain ⟨f0, f1, f2, f3, f4, f5⟩ := h.get hc
  unfold wordAt
  clear h hc
  go_enter Tryz.func80, Tryz.ntmps80
  go_wp2
  go_ret
  exact ⟨rfl, rfl⟩

theorem info64 : (Tryz.prog.info? 44).map (fun i => (i.zero, i.size, i.bytes)) = some (some (.int .u64 0), 1, 8) := by kernel_rfl
theorem gather_len {ws : List PW} {f : PW → Nat} (j : Nat) : ∀ m, (gather (fun s c => s ++ [f c]) ws j m []).length = m
  | 0 => rfl
  | m + 1 => by rw [gather_succ, List.length_append, gather_len j m]; rfl
theorem step_len {ws : List PW} {f : PW → Nat} (j : Nat) : ∀ (pre : List Nat) (s : List Nat), (pre.foldl (fun s x => s ++ [f (ws.getD (8 * j + x) PW.nought)]) s).length = s.length + pre.length
  | [], s => by simp
  | x :: pre, s => by rw [List.foldl_cons, step_len j pre, List.length_append, List.length_cons]; simp; omega

/-- A block of another type than the row's is not the row's. -/
theorem not_row {w : World} {base e size n g : Nat} {v : Value} {xs : List Value} {cs : Array Value} {T : TypeId} {f : Nat × Nat} (h : w.ownsRow base e size v n xs) (hb : w.heap[g]? = some (.cells cs T f)) (hT : T ≠ e) : some g ≠ v.ownBlock := by
  intro e'
  obtain ⟨cur, hcur⟩ := row_type h g e'.symm
  rw [hb] at hcur; cases hcur; exact hT rfl

structure AllL (f : Nat) (w : World) (d g b : Nat) (ws : List PW) (ds : List Deferred) (s : List Nat) (W : World) : Prop where
  dev : DevIs W d g ws
  fn : W.heap[w.heap.size]? = some (.cells #[.func (.func f) #[] #[]] 144 (0, 0))
  box : ∃ v, W.heap[w.heap.size + 2]? = some (.cells #[v] 33 (0, 0)) ∧ W.ownsRow w.heap.size 44 1 v s.length (s.map wv)
  grown : w.grownBy W none
  size : b + 2 ≤ W.heap.size
  marks : Marks w.heap.size W (b + 2) ds
  bi : ∃ cs, W.heap[b + 1]? = some (.cells cs 3 (0, 0))
  bd : ∃ cs, W.heap[b]? = some (.cells cs 29 (0, 0))
theorem AllL.own {f : Nat} {w : World} {d g b : Nat} {ws : List PW} {ds : List Deferred} (hd : d < w.heap.size) (hg : g < w.heap.size) (hb : w.heap.size + 2 < b) : OwnFrom (b + 2) (AllL f w d g b ws ds) := by
  intro s W W' row hs hgr hr
  refine ⟨DevIs.ownFrom (B := b + 2) (by omega) (by omega) ws W W' row hs.dev hgr hr, (hgr.block _ (Array.getElem?_eq_some_iff.1 hs.fn).1 (by intro e; have := (hr _ e.symm).1; omega)).trans hs.fn, ?_, grown_new hs.grown hgr (fun j e => by have := (hr j e).1; omega), Nat.le_trans hs.size hgr.size, Marks.ownFrom (U := b + 2) s W W' row hs.marks hgr hr, ?_, ?_⟩
  rotate_left
  · obtain ⟨cs, hb'⟩ := hs.bi
    exact ⟨cs, (hgr.block _ (Array.getElem?_eq_some_iff.1 hb').1 (by intro e; have := (hr _ e.symm).1; omega)).trans hb'⟩
  · obtain ⟨cs, hb'⟩ := hs.bd
    exact ⟨cs, (hgr.block _ (Array.getElem?_eq_some_iff.1 hb').1 (by intro e; have := (hr _ e.symm).1; omega)).trans hb'⟩
  obtain ⟨v, h1, h2⟩ := hs.box
  refine ⟨v, (hgr.block _ (Array.getElem?_eq_some_iff.1 h1).1 (by intro e; have := (hr _ e.symm).1; omega)).trans h1, ?_⟩
  refine (Turn.of (F := fun i => row = some i) hgr (fun _ e => e)).row h2 ?_
  intro i hi e
  obtain ⟨_, o, ho, hc⟩ := hr i e
  obtain ⟨cur, hcur⟩ := row_type h2 i hi
  rw [hcur] at ho; cases ho; cases hc

theorem AllL.boxes {A w' : World} {B : Nat} {v : Value} {n : Nat} {xs : List Value} {base : Nat} (hbA : A.heap[B]? = some (.cells #[v] 33 (0, 0))) (hown : A.ownsRow base 44 1 v n xs) (hg : A.grownBy w' v.ownBlock) : w'.heap[B]? = some (.cells #[v] 33 (0, 0)) :=
  (hg.block _ (Array.getElem?_eq_some_iff.1 hbA).1 (not_row hown hbA (by decide))).trans hbA
theorem AllL.round {f : Nat} {w W A w' : World} {d g b : Nat} {ws : List PW} {ds : List Deferred} {s : List Nat} {v v' : Value} {x : Nat} (h : AllL f w d g b ws ds s W) (hd : d < w.heap.size) (hgw : g < w.heap.size) (hb : w.heap.size + 2 < b)
    (hgA : W.grownBy A none) (hbA : A.heap[w.heap.size + 2]? = some (.cells #[v] 33 (0, 0))) (hfA : A.heap[w.heap.size]? = some (.cells #[.func (.func f) #[] #[]] 144 (0, 0))) (hdA : DevIs A d g ws)
    (hown : A.ownsRow w.heap.size 44 1 v s.length (s.map wv)) (hg : A.grownBy w' v.ownBlock) (ho : w'.ownsRow w.heap.size 44 1 v' (s.length + 1) (s.map wv ++ [.int .u64 (x : Int)])) (hkA : KeepsOthers W A) :
    KeepsOthers W (w'.setCell ⟨w.heap.size + 2, 0, none⟩ v') ∧ Kept (b + 1) b d W (w'.setCell ⟨w.heap.size + 2, 0, none⟩ v') ∧ AllL f w d g b ws ds (s ++ [x]) (w'.setCell ⟨w.heap.size + 2, 0, none⟩ v') := by
  have hsz := h.size
  have hle : W.heap.size ≤ A.heap.size := hgA.size
  have hB := AllL.boxes hbA hown hg
  have hk1 : KeepsOthers A w' := KeepsOthers.of_grownBy hg (fun j o e ho => by obtain ⟨cur, hcur⟩ := row_type hown j e; rw [hcur] at ho; cases ho; rfl)
  have hk := (hkA.trans hk1).trans (KeepsOthers.setCell w' ⟨w.heap.size + 2, 0, none⟩ v')
  have hgs := grown_setCell w' ⟨w.heap.size + 2, 0, none⟩ v'
  have hnew : ∀ i, v.ownBlock = some i → w.heap.size ≤ i := fun i hi => (hown.lt i hi).1
  have hD : DevIs (w'.setCell ⟨w.heap.size + 2, 0, none⟩ v') d g ws := by
    refine ⟨?_, ?_, hdA.ne, hdA.fits, hdA.small⟩
    · exact (hgs.block _ (by have := hg.size; omega) (by simp; omega)).trans ((hg.block _ (by omega) (by intro e; have := hnew d e.symm; omega)).trans hdA.dev)
    · exact (hgs.block _ (by have := hg.size; omega) (by simp; omega)).trans ((hg.block _ (by omega) (by intro e; have := hnew g e.symm; omega)).trans hdA.row)
  obtain ⟨csi, hbi⟩ := h.bi
  obtain ⟨csd, hbd⟩ := h.bd
  have hiA := (hgA.block _ (by omega) (by simp)).trans hbi
  have hdA2 := (hgA.block _ (by omega) (by simp)).trans hbd
  have hi2 := (hgs.block (b + 1) (by have := hg.size; omega) (by simp; omega)).trans ((hg.block _ (by omega) (not_row hown hiA (by decide))).trans hiA)
  have hd2 := (hgs.block b (by have := hg.size; omega) (by simp; omega)).trans ((hg.block _ (by omega) (not_row hown hdA2 (by decide))).trans hdA2)
  refine ⟨hk, ⟨?_, ?_, ?_⟩, hD, ?_, ⟨v', ?_, ?_⟩, ?_, ?_, h.marks.keeps hk, ⟨_, hi2⟩, ⟨_, hd2⟩⟩
  · exact hi2.trans hbi.symm
  · exact hd2.trans hbd.symm
  · exact hD.dev.trans h.dev.dev.symm
  · exact (hgs.block _ (by have := hg.size; omega) (by simp)).trans ((hg.block _ (by omega) (not_row hown hfA (by decide))).trans hfA)
  · have := heap_setCell_at (o := 0) hB v'; simpa using this
  · rw [List.length_append, List.map_append]
    exact (Turn.of (F := fun i => i = w.heap.size + 2) hgs (fun i e => by cases e; rfl)).row ho (fun i hi e => not_row ho hB (by decide) (by rw [← e]; exact hi.symm))
  · exact grown_new (grown_new (grown_trans h.grown hgA) hg hnew) hgs (fun i e => by cases e; show w.heap.size ≤ w.heap.size + 2; omega)
  · exact Nat.le_trans h.size (Nat.le_trans hle (Nat.le_trans hg.size hgs.size))

theorem step_append {F : Fence} {n : Nat} {P : Program} {o : Oper} {a : Act} {K : Act → World → Prop} {Q : Exit → Act → World → Prop} {w w' : World} (s x : Operand) (T : TypeId) {v v' y : Value}
    (ho : o.op = .call { callee := .builtin .append, args := #[s, x], argTypes := #[T, T] }) (hs : a.eval s = v) (hx : a.eval x = y) (hrun : (Builtin.append_ #[T, T] o.type #[v, y]).run P w = .ok v' w') (h : K (a.put o.dst v') w') : Oper.wpIn F n P o a w K Q := by
  unfold Oper.wpIn
  refine ⟨?_, ?_⟩
  · simp [Oper.about, ho, resolve, Target.leads, Sem.run_pure]
  · rw [Oper.semAt_plain F _ _ (by rw [ho]; intro c hc'; cases hc')]
    simp [execOp, ho, resolve, invoke, builtin, hs, hx, hrun, Result.andThen]
    exact h

set_option maxRecDepth 100000 in
set_option maxHeartbeats 4000000 in
theorem allSure_any (w : World) (d g : Nat) (ws : List PW) (h : DevIs w d g ws) (N : Nat) (hN : ws.length = 8 * N) :
    Calls Tryz.prog 78 #[ptr d, .func (.func 80) #[] #[]] w fun e w' => ∃ v, e = .returned v ∧ w'.ownsRow w.heap.size 44 1 v ws.length (ws.map fun c => wv c.sure) ∧ w.grownBy w' none := by
  have hf := h.fits
  have hN8 : ws.length / 8 = N := by omega
  have hrow := (Array.getElem?_eq_some_iff.1 h.row).1
  have hdd := (Array.getElem?_eq_some_iff.1 h.dev).1
  have hga := World.grownBy_alloc w (.cells #[.func (.func 80) #[] #[]] 144) none
  have ha := h.grown hga
  have HWd := Lib.hid (pm_Words_any _ d g ws ha)
  have hbf := heap_alloc_new w (.cells #[.func (.func 80) #[] #[]] 144)
  obtain ⟨i0, hi0, hz0, hz1, hz2⟩ := info_parts info64
  obtain ⟨n, hn⟩ : ∃ n, ws.length = n := ⟨_, rfl⟩
  rw [hn] at HWd hN hf hN8
  replace hN := Lib.hid hN
  have hmk : ∀ w', (Instr.makeSlice 33 (.int .i64 0) (.int .i64 (n : Int))).run Tryz.prog w' = .ok (.slice (some ⟨w'.heap.size, 0, none⟩) 0 n) (w'.alloc (.cells (madeCells (Value.cells (.int .u64 0)) n) 44)) := by
    intro w'
    have := run_make (P := Tryz.prog) w' 33 44 i0 (.int .u64 0) Tryz.underlying33 hi0 hz0 .i64 .i64 0 n (Int.le_refl _) (by omega) (by rw [hz2]; omega) (by omega)
    rw [hz1, Nat.mul_one] at this
    exact this
  unfold ptr at HWd ⊢
  refine (callsIn_wide (n := 9)).1 ?_
  refine callsIn_of_wp_marks Tryz.func78 rfl trivial ?_ rfl
  simp only [Tryz.ntmps78, List.size_toArray, List.length_cons, List.length_nil, Nat.reduceAdd, Nat.reduceSub, Array.replicate_succ, Array.replicate_zero, List.push_toArray, List.append_toArray, List.nil_append, List.cons_append]
  gi_wp2_with fail
  generalize hwa : w.alloc (.cells #[.func (.func 80) #[] #[]] 144) = wa at hga ha hbf HWd ⊢
  refine ⟨trivial, (callsIn_wide.2 HWd.out).mono ?_⟩
  rintro e w1 ⟨rfl, rfl⟩
  have hsa : w1.heap.size = w.heap.size + 1 := by rw [← hwa]; simp
  gi_wp2_with fail
  have hr1 := heap_alloc_new w1 (.cells (madeCells (Value.cells (.int .u64 0)) n) 44)
  have hb1 := heap_alloc_new (w1.alloc (.cells (madeCells (Value.cells (.int .u64 0)) n) 44)) (.cells #[.slice (some ⟨w.heap.size + 1, 0, none⟩) 0 n] 33)
  have hg2 := grown_trans (World.grownBy_alloc w1 (.cells (madeCells (Value.cells (.int .u64 0)) n) 44) none) (World.grownBy_alloc (w1.alloc (.cells (madeCells (Value.cells (.int .u64 0)) n) 44)) (.cells #[.slice (some ⟨w.heap.size + 1, 0, none⟩) 0 n] 33) none)
  have hr2 := ((World.grownBy_alloc (w1.alloc (.cells (madeCells (Value.cells (.int .u64 0)) n) 44)) (.cells #[.slice (some ⟨w.heap.size + 1, 0, none⟩) 0 n] 33) none).block w1.heap.size (by simp) (by simp)).trans hr1
  have hmc : (madeCells (Value.cells (.int .u64 0)) n).size = n := by simp [madeCells, Value.cells]
  rw [World.size_alloc] at hb1
  generalize hw3 : (w1.alloc (.cells (madeCells (Value.cells (.int .u64 0)) n) 44)).alloc (.cells #[.slice (some ⟨w.heap.size + 1, 0, none⟩) 0 n] 33) = w3 at hb1 hg2 hr2
  simp only [Value.cells] at hw3
  rw [hw3]
  have hs3 : w3.heap.size = w.heap.size + 3 := by rw [← hw3]; simp; omega
  clear hw3 hwa hr1
  have h3 := ha.grown hg2
  have hf3 := (hg2.block _ (by omega) (by simp)).trans hbf
  have hB3 : w3.heap[w.heap.size + 2]? = some (.cells #[.slice (some ⟨w.heap.size + 1, 0, none⟩) 0 n] 33 (0, 0)) := by rw [hsa] at hb1; exact hb1
  have hO3 : w3.ownsRow w.heap.size 44 1 (.slice (some ⟨w.heap.size + 1, 0, none⟩) 0 n) 0 [] :=
    ⟨rfl, .inr ⟨w.heap.size + 1, n, _, rfl, by omega, by rw [hsa] at hr2; exact hr2, Nat.zero_le _, by unfold maxLen; omega, by rw [hmc, Nat.mul_one], by simp⟩⟩
  have hG3 : w.grownBy w3 none := grown_trans hga hg2
  have HL := Lib.hid (lines_any _ d g ws h3)
  rw [hn, hN8] at HL
  unfold ptr at HL
  clear hmk hga ha hbf HWd hr2 hb1 hg2 hmc
  refine ⟨trivial, (callsIn_wide.2 HL.out).mono ?_⟩
  rintro e w1 ⟨rfl, rfl⟩
  gi_wp2_with fail
  refine wpIn_loop (fun a' w' => ∃ (j : Nat) (u6 u14 u15 u16 u17 u18 u26 : Value) (ds : List Deferred), (j ≤ N ∧ DevIs w' d g ws ∧ w'.heap[w.heap.size]? = some (.cells #[.func (.func 80) #[] #[]] 144 (0, 0)) ∧ (∃ v, w'.heap[w.heap.size + 2]? = some (.cells #[v] 33 (0, 0)) ∧ w'.ownsRow w.heap.size 44 1 v (8 * j) ((gather (fun s c => s ++ [c.sure]) ws 0 (8 * j) []).map wv)) ∧ w.grownBy w' none ∧ Marks w.heap.size w' w'.heap.size ds) ∧ a' = { tmps := #[.pointer (some ⟨d, 0, none⟩), .func (.func 80) #[] #[], undef, .pointer (some ⟨w.heap.size, 0, none⟩), .slice none 0 0, .pointer (some ⟨w.heap.size + 2, 0, none⟩), u6, undef, .pointer (some ⟨d, 0, none⟩), .int .i64 (n : Int), .slice (some ⟨w.heap.size + 1, 0, none⟩) 0 n, .pointer (some ⟨d, 0, none⟩), .int .i64 (N : Int), .int .i64 (j : Int), u14, u15, u16, u17, u18, undef, undef, undef, undef, undef, undef, undef, u26, undef], defers := ds })
    (fun a' _ => N - (intOf (a'.tmps.getD 13 undef)).toNat) ?start ?round
  case start => exact ⟨0, _, _, _, _, _, _, _, [], ⟨Nat.zero_le _, h3, hf3, ⟨_, hB3, hO3⟩, hG3, trivial⟩, rfl⟩
  case round =>
    rintro _ wr ⟨j, u6, u14, u15, u16, u17, u18, u26, ds, ⟨hj, hD, hF, hB, hG, hM⟩, rfl⟩
    have j0 : (0 : Int) ≤ (j : Int) := by omega
    have hBs : w.heap.size + 2 < wr.heap.size := by obtain ⟨v, hv, _⟩ := hB; exact (Array.getElem?_eq_some_iff.1 hv).1
    by_cases hlt : j < N
    · have hlt' : (j : Int) < (N : Int) := by omega
      have wj : IntKind.i64.wrap ((j : Int) + 1) = (j : Int) + 1 := IntWalk.i64_in _ ⟨by omega, by omega⟩
      gi_wp2_with fail
      refine ⟨trivial, (callsIn_wide.2 (line_any wr d j)).mono ?_⟩
      rintro e w2 ⟨rfl, hw2⟩
      obtain ⟨b1, b2, hg2, hs2, hk2⟩ := boxes_new wr d j w2 hw2
      have hD2 := hD.grown hg2
      have hM2 := (hM.keeps hk2).up (by omega : wr.heap.size ≤ w2.heap.size)
      have hF2 := (hg2.block _ (by omega) (by simp)).trans hF
      have hB2 : ∃ v, w2.heap[w.heap.size + 2]? = some (.cells #[v] 33 (0, 0)) ∧ w2.ownsRow w.heap.size 44 1 v (gather (fun s c => s ++ [c.sure]) ws 0 (8 * j) []).length ((gather (fun s c => s ++ [c.sure]) ws 0 (8 * j) []).map wv) := by
        obtain ⟨v, h1, h2⟩ := hB
        refine ⟨v, (hg2.block _ hBs (by simp)).trans h1, ?_⟩
        rw [gather_len]
        exact (Turn.of (F := fun _ => False) hg2 (fun _ e => by cases e)).row h2 (fun _ _ e => e)
      clear hw2 hB
      gi_wp2_with fail
      refine range_line2 (by decide) (bi := wr.heap.size + 1) (bd := wr.heap.size) (d := d) (g := g) (i := j) (n := ws.length) rfl rfl b1 b2 hD2.dev (by rw [hn]; have := hN.out; omega) (by rw [hn]; exact hf)
        (fun s x => s ++ [(ws.getD (8 * j + x) PW.nought).sure]) (gather (fun s c => s ++ [c.sure]) ws 0 (8 * j) []) (AllL 80 w d g wr.heap.size ws ds) (by rw [hs2]; exact AllL.own hdd hrow hBs) ⟨hD2, hF2, hB2, grown_trans hG hg2, by omega, by rw [← hs2]; exact hM2, ⟨_, b1⟩, ⟨_, b2⟩⟩
        (fun x => { tmps := #[ptr d, .func (.func 80) #[] #[], undef, ptr w.heap.size, .slice none 0 0, ptr (w.heap.size + 2), .int .i64 (j : Int), wordAt g (8 * j + x), ptr d, .int .i64 (n : Int), .slice (some ⟨w.heap.size + 1, 0, none⟩) 0 n, ptr d, .int .i64 (N : Int), .int .i64 (j : Int), .bool true, .int .i64 (j : Int), ptr d, .int .i64 (j : Int), .func (.func 103) #[] #[ptr (wr.heap.size + 1), ptr wr.heap.size], wordAt g (8 * j + x), undef, undef, undef, undef, undef, undef, u26, undef], defers := [] }) ?assign ?body ?done
      case assign =>
        intro l x W K hK
        gi_wp2
        exact hK
      case body =>
        rintro l pre x W hpre hx hL
        have hslen := step_len (ws := ws) (f := PW.sure) j pre (gather (fun s c => s ++ [c.sure]) ws 0 (8 * j) [])
        rw [gather_len] at hslen
        have hNo := hN.out
        generalize pre.foldl (fun s x => s ++ [(ws.getD (8 * j + x) PW.nought).sure]) (gather (fun s c => s ++ [c.sure]) ws 0 (8 * j) []) = s at hL hslen ⊢
        have hc : ws[8 * j + x]? = some (ws.getD (8 * j + x) PW.nought) := by
          rw [List.getD_eq_getElem?_getD, List.getElem?_eq_getElem (by omega : 8 * j + x < ws.length)]; rfl
        generalize hk : 8 * j + x = k at hc ⊢
        generalize ws.getD k PW.nought = c at hc ⊢
        obtain ⟨v, hv, hown⟩ := hL.box
        have cF : W.cell? ⟨w.heap.size, 0, none⟩ = some (.func (.func 80) #[] #[]) := by unfold World.cell?; rw [hL.fn]; rfl
        have cR : W.cell? ⟨w.heap.size + 2, 0, none⟩ = some v := by unfold World.cell?; rw [hv]; rfl
        have zR : W.frozen? ⟨w.heap.size + 2, 0, none⟩ = false := by simp [World.frozen?, hv]
        have HC := Lib.hid (fun (Wx : World) (hDx : DevIs Wx d g ws) => theSure_any Wx d g ws hDx k c hc)
        have hDd := Lib.hid hL.dev
        have hDdr := Lib.hid (show DevIs W.drew d g ws from ⟨hL.dev.dev, hL.dev.row, hL.dev.ne, hL.dev.fits, hL.dev.small⟩)
        have hmix : Tryz.prog.follows .mixedOrders = true := by kernel_rfl
        obtain ⟨ad, cap, rfl, _⟩ := row_slice hown
        have hownA : (W.drew.alloc (.cells #[.int .u64 (c.sure : Int)] 44)).ownsRow w.heap.size 44 1 (.slice ad s.length cap) s.length (s.map wv) :=
          (Turn.of (F := fun _ => False) (grown_trans (grown_drew (World.grownBy.refl W none)) (World.grownBy_alloc W.drew (.cells #[.int .u64 (c.sure : Int)] 44) none)) (fun _ e => by cases e)).row hown (fun _ _ e => e)
        have hszL := hL.size
        obtain ⟨v', w', hap, ho', hg', _, hwhere⟩ := run_append_own_at (P := Tryz.prog) (W.drew.alloc (.cells #[.int .u64 (c.sure : Int)] 44)) w.heap.size 33 33 44 i0 (.int .u64 0) 1 8 Tryz.underlying33 hi0 hz0 hz1 hz2 rfl (by decide) _ s.length (s.map wv) hownA ⟨W.heap.size, 0, none⟩ 1 1 [.int .u64 (c.sure : Int)] rfl (cell_one_new _ _ _) (by simp [Value.oneCell']) (by unfold maxLen; omega) (by omega) (by simp; omega)
        obtain ⟨ad', cap', rfl, _⟩ := row_slice ho'
        have hgA : W.grownBy (W.drew.alloc (.cells #[.int .u64 (c.sure : Int)] 44)) none := grown_trans (grown_drew (World.grownBy.refl W none)) (World.grownBy_alloc W.drew (.cells #[.int .u64 (c.sure : Int)] 44) none)
        have hbA := (hgA.block _ (Array.getElem?_eq_some_iff.1 hv).1 (by simp)).trans hv
        have hfA := (hgA.block _ (Array.getElem?_eq_some_iff.1 hL.fn).1 (by simp)).trans hL.fn
        have hdA := hL.dev.grown hgA
        have hkA : KeepsOthers W (W.drew.alloc (.cells #[.int .u64 (c.sure : Int)] 44)) := (KeepsOthers.drew W).trans (KeepsOthers.alloc _ _)
        have cRA : (W.alloc (.cells #[.int .u64 (c.sure : Int)] 44)).cell? ⟨w.heap.size + 2, 0, none⟩ = some (.slice ad s.length cap) := by
          have : (W.drew.alloc (.cells #[.int .u64 (c.sure : Int)] 44)).cell? ⟨w.heap.size + 2, 0, none⟩ = some (.slice ad s.length cap) := by unfold World.cell?; rw [hbA]; rfl
          exact this
        have hfin := Lib.hid (AllL.round hL hdd hrow hBs hgA hbA hfA hdA hownA hg' ho' hkA)
        have hbw := AllL.boxes hbA hownA hg'
        have cR' : w'.cell? ⟨w.heap.size + 2, 0, none⟩ = some (.slice ad s.length cap) := by unfold World.cell?; rw [hbw]; rfl
        have zR' : w'.frozen? ⟨w.heap.size + 2, 0, none⟩ = false := by simp [World.frozen?, hbw]
        clear hslen hNo
        clear hbw hgA hbA hfA hdA hkA hownA hg' ho' hwhere hL hown hv
        unfold wordAt ptr at *
        gi_wp2_with fail
        refine wpIn_region_any hmix ?_
        change wpAnyIn _ _ _ _ _ _ _ _ _ (World.drew _)
        refine wpAnyIn_ready (rs := [0, 1, 2]) (by kernel_rfl) (by simp) ?_
        refine AllReadyIn.cons rfl (fun K hK => ?_) ?_
        · go_simp
          refine hK _ _ ?_; clear hK K
          try simp only [Act.put, List.setIfInBounds_toArray, List.set_cons_zero, List.set_cons_succ]
          refine wpAnyIn_ready (rs := [1, 2]) (by kernel_rfl) (by simp) ?_
          refine AllReadyIn.cons rfl (fun K hK => ?_) ?_
          · go_simp
            refine hK _ _ ?_; clear hK K
            try simp only [Act.put, List.setIfInBounds_toArray, List.set_cons_zero, List.set_cons_succ]
            refine wpAnyIn_ready (rs := [2]) (by kernel_rfl) (by simp) ?_
            refine AllReadyIn.cons rfl (fun K hK => ?_) ?_
            · go_simp
              refine hK _ _ ?_; clear hK K
              try simp only [Act.put, List.setIfInBounds_toArray, List.set_cons_zero, List.set_cons_succ]
              refine wpAnyIn_ready (rs := [3]) (by kernel_rfl) (by simp) ?_
              refine AllReadyIn.cons rfl (fun K hK => ?_) ?_
              · gi_wp2_with (refine ⟨trivial, (CallsIn.inRound l (callsIn_wide.2 (HC.out _ hDdr.out))).mono ?_⟩; rintro e w5 ⟨rfl, rfl⟩)
                try simp only [Act.put, List.setIfInBounds_toArray, List.set_cons_zero, List.set_cons_succ]
                refine wpAnyIn_ready (rs := [4]) (by kernel_rfl) (by simp) ?_
                refine AllReadyIn.cons rfl (fun K hK => ?_) ?_
                · go_simp
                  refine hK _ _ ?_; clear hK K
                  try simp only [Act.put, List.setIfInBounds_toArray, List.set_cons_zero, List.set_cons_succ]
                  refine wpAnyIn_ready (rs := [5]) (by kernel_rfl) (by simp) ?_
                  refine AllReadyIn.cons (o := { dst := some 25, op := Op.call { callee := Callee.builtin Builtin.append, args := #[Operand.tmp 20, Operand.tmp 24], argTypes := #[33, 33] }, type := 33, pos := "pmem.go:170", after := #[{ on := 0, ground := Ground.data }, { on := 4, ground := Ground.data }, { on := 3, ground := Ground.chain }], guard := none }) rfl (fun K hK => ?_) ?_
                  · refine Eq.mp (if_pos (by rfl)).symm ?_; refine step_append (v := .slice ad s.length cap) (y := .slice (some ⟨W.heap.size, 0, none⟩) 1 1) _ _ 33 rfl rfl rfl hap ?_
                    refine hK _ _ ?_; clear hK K
                    try simp only [Act.put, List.setIfInBounds_toArray, List.set_cons_zero, List.set_cons_succ]
                    refine wpAnyIn_ready (rs := [6]) (by kernel_rfl) (by simp) ?_
                    refine AllReadyIn.cons rfl (fun K hK => ?_) ?_
                    · go_simp
                      refine hK _ _ ?_; clear hK K
                      try simp only [Act.put, List.setIfInBounds_toArray, List.set_cons_zero, List.set_cons_succ]
                      refine wpAnyIn_done (by kernel_rfl) ?_ _
                      gi_wp2
                      exact hfin.out
                    exact AllReadyIn.nil
                  exact AllReadyIn.nil
                exact AllReadyIn.nil
              exact AllReadyIn.nil
            exact AllReadyIn.nil
          refine AllReadyIn.cons rfl (fun K hK => ?_) ?_
          · go_simp
            refine hK _ _ ?_; clear hK K
            try simp only [Act.put, List.setIfInBounds_toArray, List.set_cons_zero, List.set_cons_succ]
            refine wpAnyIn_ready (rs := [1]) (by kernel_rfl) (by simp) ?_
            refine AllReadyIn.cons rfl (fun K hK => ?_) ?_
            · go_simp
              refine hK _ _ ?_; clear hK K
              try simp only [Act.put, List.setIfInBounds_toArray, List.set_cons_zero, List.set_cons_succ]
              refine wpAnyIn_ready (rs := [3]) (by kernel_rfl) (by simp) ?_
              refine AllReadyIn.cons rfl (fun K hK => ?_) ?_
              · gi_wp2_with (refine ⟨trivial, (CallsIn.inRound l (callsIn_wide.2 (HC.out _ hDdr.out))).mono ?_⟩; rintro e w5 ⟨rfl, rfl⟩)
                try simp only [Act.put, List.setIfInBounds_toArray, List.set_cons_zero, List.set_cons_succ]
                refine wpAnyIn_ready (rs := [4]) (by kernel_rfl) (by simp) ?_
                refine AllReadyIn.cons rfl (fun K hK => ?_) ?_
                · go_simp
                  refine hK _ _ ?_; clear hK K
                  try simp only [Act.put, List.setIfInBounds_toArray, List.set_cons_zero, List.set_cons_succ]
                  refine wpAnyIn_ready (rs := [5]) (by kernel_rfl) (by simp) ?_
                  refine AllReadyIn.cons (o := { dst := some 25, op := Op.call { callee := Callee.builtin Builtin.append, args := #[Operand.tmp 20, Operand.tmp 24], argTypes := #[33, 33] }, type := 33, pos := "pmem.go:170", after := #[{ on := 0, ground := Ground.data }, { on := 4, ground := Ground.data }, { on := 3, ground := Ground.chain }], guard := none }) rfl (fun K hK => ?_) ?_
                  · refine Eq.mp (if_pos (by rfl)).symm ?_; refine step_append (v := .slice ad s.length cap) (y := .slice (some ⟨W.heap.size, 0, none⟩) 1 1) _ _ 33 rfl rfl rfl hap ?_
                    refine hK _ _ ?_; clear hK K
                    try simp only [Act.put, List.setIfInBounds_toArray, List.set_cons_zero, List.set_cons_succ]
                    refine wpAnyIn_ready (rs := [6]) (by kernel_rfl) (by simp) ?_
                    refine AllReadyIn.cons rfl (fun K hK => ?_) ?_
                    · go_simp
                      refine hK _ _ ?_; clear hK K
                      try simp only [Act.put, List.setIfInBounds_toArray, List.set_cons_zero, List.set_cons_succ]
                      refine wpAnyIn_done (by kernel_rfl) ?_ _
                      gi_wp2
                      exact hfin.out
                    exact AllReadyIn.nil
                  exact AllReadyIn.nil
                exact AllReadyIn.nil
              exact AllReadyIn.nil
            exact AllReadyIn.nil
          exact AllReadyIn.nil
        refine AllReadyIn.cons rfl (fun K hK => ?_) ?_
        · go_simp
          refine hK _ _ ?_; clear hK K
          try simp only [Act.put, List.setIfInBounds_toArray, List.set_cons_zero, List.set_cons_succ]
          refine wpAnyIn_ready (rs := [0, 2]) (by kernel_rfl) (by simp) ?_
          refine AllReadyIn.cons rfl (fun K hK => ?_) ?_
          · go_simp
            refine hK _ _ ?_; clear hK K
            try simp only [Act.put, List.setIfInBounds_toArray, List.set_cons_zero, List.set_cons_succ]
            refine wpAnyIn_ready (rs := [2]) (by kernel_rfl) (by simp) ?_
            refine AllReadyIn.cons rfl (fun K hK => ?_) ?_
            · go_simp
              refine hK _ _ ?_; clear hK K
              try simp only [Act.put, List.setIfInBounds_toArray, List.set_cons_zero, List.set_cons_succ]
              refine wpAnyIn_ready (rs := [3]) (by kernel_rfl) (by simp) ?_
              refine AllReadyIn.cons rfl (fun K hK => ?_) ?_
              · gi_wp2_with (refine ⟨trivial, (CallsIn.inRound l (callsIn_wide.2 (HC.out _ hDdr.out))).mono ?_⟩; rintro e w5 ⟨rfl, rfl⟩)
                try simp only [Act.put, List.setIfInBounds_toArray, List.set_cons_zero, List.set_cons_succ]
                refine wpAnyIn_ready (rs := [4]) (by kernel_rfl) (by simp) ?_
                refine AllReadyIn.cons rfl (fun K hK => ?_) ?_
                · go_simp
                  refine hK _ _ ?_; clear hK K
                  try simp only [Act.put, List.setIfInBounds_toArray, List.set_cons_zero, List.set_cons_succ]
                  refine wpAnyIn_ready (rs := [5]) (by kernel_rfl) (by simp) ?_
                  refine AllReadyIn.cons (o := { dst := some 25, op := Op.call { callee := Callee.builtin Builtin.append, args := #[Operand.tmp 20, Operand.tmp 24], argTypes := #[33, 33] }, type := 33, pos := "pmem.go:170", after := #[{ on := 0, ground := Ground.data }, { on := 4, ground := Ground.data }, { on := 3, ground := Ground.chain }], guard := none }) rfl (fun K hK => ?_) ?_
                  · refine Eq.mp (if_pos (by rfl)).symm ?_; refine step_append (v := .slice ad s.length cap) (y := .slice (some ⟨W.heap.size, 0, none⟩) 1 1) _ _ 33 rfl rfl rfl hap ?_
                    refine hK _ _ ?_; clear hK K
                    try simp only [Act.put, List.setIfInBounds_toArray, List.set_cons_zero, List.set_cons_succ]
                    refine wpAnyIn_ready (rs := [6]) (by kernel_rfl) (by simp) ?_
                    refine AllReadyIn.cons rfl (fun K hK => ?_) ?_
                    · go_simp
                      refine hK _ _ ?_; clear hK K
                      try simp only [Act.put, List.setIfInBounds_toArray, List.set_cons_zero, List.set_cons_succ]
                      refine wpAnyIn_done (by kernel_rfl) ?_ _
                      gi_wp2
                      exact hfin.out
                    exact AllReadyIn.nil
                  exact AllReadyIn.nil
                exact AllReadyIn.nil
              exact AllReadyIn.nil
            exact AllReadyIn.nil
          refine AllReadyIn.cons rfl (fun K hK => ?_) ?_
          · go_simp
            refine hK _ _ ?_; clear hK K
            try simp only [Act.put, List.setIfInBounds_toArray, List.set_cons_zero, List.set_cons_succ]
            refine wpAnyIn_ready (rs := [0, 3]) (by kernel_rfl) (by simp) ?_
            refine AllReadyIn.cons rfl (fun K hK => ?_) ?_
            · go_simp
              refine hK _ _ ?_; clear hK K
              try simp only [Act.put, List.setIfInBounds_toArray, List.set_cons_zero, List.set_cons_succ]
              refine wpAnyIn_ready (rs := [3]) (by kernel_rfl) (by simp) ?_
              refine AllReadyIn.cons rfl (fun K hK => ?_) ?_
              · gi_wp2_with (refine ⟨trivial, (CallsIn.inRound l (callsIn_wide.2 (HC.out _ hDdr.out))).mono ?_⟩; rintro e w5 ⟨rfl, rfl⟩)
                try simp only [Act.put, List.setIfInBounds_toArray, List.set_cons_zero, List.set_cons_succ]
                refine wpAnyIn_ready (rs := [4]) (by kernel_rfl) (by simp) ?_
                refine AllReadyIn.cons rfl (fun K hK => ?_) ?_
                · go_simp
                  refine hK _ _ ?_; clear hK K
                  try simp only [Act.put, List.setIfInBounds_toArray, List.set_cons_zero, List.set_cons_succ]
                  refine wpAnyIn_ready (rs := [5]) (by kernel_rfl) (by simp) ?_
                  refine AllReadyIn.cons (o := { dst := some 25, op := Op.call { callee := Callee.builtin Builtin.append, args := #[Operand.tmp 20, Operand.tmp 24], argTypes := #[33, 33] }, type := 33, pos := "pmem.go:170", after := #[{ on := 0, ground := Ground.data }, { on := 4, ground := Ground.data }, { on := 3, ground := Ground.chain }], guard := none }) rfl (fun K hK => ?_) ?_
                  · refine Eq.mp (if_pos (by rfl)).symm ?_; refine step_append (v := .slice ad s.length cap) (y := .slice (some ⟨W.heap.size, 0, none⟩) 1 1) _ _ 33 rfl rfl rfl hap ?_
                    refine hK _ _ ?_; clear hK K
                    try simp only [Act.put, List.setIfInBounds_toArray, List.set_cons_zero, List.set_cons_succ]
                    refine wpAnyIn_ready (rs := [6]) (by kernel_rfl) (by simp) ?_
                    refine AllReadyIn.cons rfl (fun K hK => ?_) ?_
                    · go_simp
                      refine hK _ _ ?_; clear hK K
                      try simp only [Act.put, List.setIfInBounds_toArray, List.set_cons_zero, List.set_cons_succ]
                      refine wpAnyIn_done (by kernel_rfl) ?_ _
                      gi_wp2
                      exact hfin.out
                    exact AllReadyIn.nil
                  exact AllReadyIn.nil
                exact AllReadyIn.nil
              exact AllReadyIn.nil
            refine AllReadyIn.cons rfl (fun K hK => ?_) ?_
            · gi_wp2_with (refine ⟨trivial, (CallsIn.inRound l (callsIn_wide.2 (HC.out _ hDdr.out))).mono ?_⟩; rintro e w5 ⟨rfl, rfl⟩)
              try simp only [Act.put, List.setIfInBounds_toArray, List.set_cons_zero, List.set_cons_succ]
              refine wpAnyIn_ready (rs := [0, 4]) (by kernel_rfl) (by simp) ?_
              refine AllReadyIn.cons rfl (fun K hK => ?_) ?_
              · go_simp
                refine hK _ _ ?_; clear hK K
                try simp only [Act.put, List.setIfInBounds_toArray, List.set_cons_zero, List.set_cons_succ]
                refine wpAnyIn_ready (rs := [4]) (by kernel_rfl) (by simp) ?_
                refine AllReadyIn.cons rfl (fun K hK => ?_) ?_
                · go_simp
                  refine hK _ _ ?_; clear hK K
                  try simp only [Act.put, List.setIfInBounds_toArray, List.set_cons_zero, List.set_cons_succ]
                  refine wpAnyIn_ready (rs := [5]) (by kernel_rfl) (by simp) ?_
                  refine AllReadyIn.cons (o := { dst := some 25, op := Op.call { callee := Callee.builtin Builtin.append, args := #[Operand.tmp 20, Operand.tmp 24], argTypes := #[33, 33] }, type := 33, pos := "pmem.go:170", after := #[{ on := 0, ground := Ground.data }, { on := 4, ground := Ground.data }, { on := 3, ground := Ground.chain }], guard := none }) rfl (fun K hK => ?_) ?_
                  · refine Eq.mp (if_pos (by rfl)).symm ?_; refine step_append (v := .slice ad s.length cap) (y := .slice (some ⟨W.heap.size, 0, none⟩) 1 1) _ _ 33 rfl rfl rfl hap ?_
                    refine hK _ _ ?_; clear hK K
                    try simp only [Act.put, List.setIfInBounds_toArray, List.set_cons_zero, List.set_cons_succ]
                    refine wpAnyIn_ready (rs := [6]) (by kernel_rfl) (by simp) ?_
                    refine AllReadyIn.cons rfl (fun K hK => ?_) ?_
                    · go_simp
                      refine hK _ _ ?_; clear hK K
                      try simp only [Act.put, List.setIfInBounds_toArray, List.set_cons_zero, List.set_cons_succ]
                      refine wpAnyIn_done (by kernel_rfl) ?_ _
                      gi_wp2
                      exact hfin.out
                    exact AllReadyIn.nil
                  exact AllReadyIn.nil
                exact AllReadyIn.nil
              refine AllReadyIn.cons rfl (fun K hK => ?_) ?_
              · go_simp
                refine hK _ _ ?_; clear hK K
                try simp only [Act.put, List.setIfInBounds_toArray, List.set_cons_zero, List.set_cons_succ]
                refine wpAnyIn_ready (rs := [0]) (by kernel_rfl) (by simp) ?_
                refine AllReadyIn.cons rfl (fun K hK => ?_) ?_
                · go_simp
                  refine hK _ _ ?_; clear hK K
                  try simp only [Act.put, List.setIfInBounds_toArray, List.set_cons_zero, List.set_cons_succ]
                  refine wpAnyIn_ready (rs := [5]) (by kernel_rfl) (by simp) ?_
                  refine AllReadyIn.cons (o := { dst := some 25, op := Op.call { callee := Callee.builtin Builtin.append, args := #[Operand.tmp 20, Operand.tmp 24], argTypes := #[33, 33] }, type := 33, pos := "pmem.go:170", after := #[{ on := 0, ground := Ground.data }, { on := 4, ground := Ground.data }, { on := 3, ground := Ground.chain }], guard := none }) rfl (fun K hK => ?_) ?_
                  · refine Eq.mp (if_pos (by rfl)).symm ?_; refine step_append (v := .slice ad s.length cap) (y := .slice (some ⟨W.heap.size, 0, none⟩) 1 1) _ _ 33 rfl rfl rfl hap ?_
                    refine hK _ _ ?_; clear hK K
                    try simp only [Act.put, List.setIfInBounds_toArray, List.set_cons_zero, List.set_cons_succ]
                    refine wpAnyIn_ready (rs := [6]) (by kernel_rfl) (by simp) ?_
                    refine AllReadyIn.cons rfl (fun K hK => ?_) ?_
                    · go_simp
                      refine hK _ _ ?_; clear hK K
                      try simp only [Act.put, List.setIfInBounds_toArray, List.set_cons_zero, List.set_cons_succ]
                      refine wpAnyIn_done (by kernel_rfl) ?_ _
                      gi_wp2
                      exact hfin.out
                    exact AllReadyIn.nil
                  exact AllReadyIn.nil
                exact AllReadyIn.nil
              exact AllReadyIn.nil
            exact AllReadyIn.nil
          exact AllReadyIn.nil
        refine AllReadyIn.cons rfl (fun K hK => ?_) ?_
        · go_simp
          refine hK _ _ ?_; clear hK K
          try simp only [Act.put, List.setIfInBounds_toArray, List.set_cons_zero, List.set_cons_succ]
          refine wpAnyIn_ready (rs := [0, 1]) (by kernel_rfl) (by simp) ?_
          refine AllReadyIn.cons rfl (fun K hK => ?_) ?_
          · go_simp
            refine hK _ _ ?_; clear hK K
            try simp only [Act.put, List.setIfInBounds_toArray, List.set_cons_zero, List.set_cons_succ]
            refine wpAnyIn_ready (rs := [1]) (by kernel_rfl) (by simp) ?_
            refine AllReadyIn.cons rfl (fun K hK => ?_) ?_
            · go_simp
              refine hK _ _ ?_; clear hK K
              try simp only [Act.put, List.setIfInBounds_toArray, List.set_cons_zero, List.set_cons_succ]
              refine wpAnyIn_ready (rs := [3]) (by kernel_rfl) (by simp) ?_
              refine AllReadyIn.cons rfl (fun K hK => ?_) ?_
              · gi_wp2_with (refine ⟨trivial, (CallsIn.inRound l (callsIn_wide.2 (HC.out _ hDdr.out))).mono ?_⟩; rintro e w5 ⟨rfl, rfl⟩)
                try simp only [Act.put, List.setIfInBounds_toArray, List.set_cons_zero, List.set_cons_succ]
                refine wpAnyIn_ready (rs := [4]) (by kernel_rfl) (by simp) ?_
                refine AllReadyIn.cons rfl (fun K hK => ?_) ?_
                · go_simp
                  refine hK _ _ ?_; clear hK K
                  try simp only [Act.put, List.setIfInBounds_toArray, List.set_cons_zero, List.set_cons_succ]
                  refine wpAnyIn_ready (rs := [5]) (by kernel_rfl) (by simp) ?_
                  refine AllReadyIn.cons (o := { dst := some 25, op := Op.call { callee := Callee.builtin Builtin.append, args := #[Operand.tmp 20, Operand.tmp 24], argTypes := #[33, 33] }, type := 33, pos := "pmem.go:170", after := #[{ on := 0, ground := Ground.data }, { on := 4, ground := Ground.data }, { on := 3, ground := Ground.chain }], guard := none }) rfl (fun K hK => ?_) ?_
                  · refine Eq.mp (if_pos (by rfl)).symm ?_; refine step_append (v := .slice ad s.length cap) (y := .slice (some ⟨W.heap.size, 0, none⟩) 1 1) _ _ 33 rfl rfl rfl hap ?_
                    refine hK _ _ ?_; clear hK K
                    try simp only [Act.put, List.setIfInBounds_toArray, List.set_cons_zero, List.set_cons_succ]
                    refine wpAnyIn_ready (rs := [6]) (by kernel_rfl) (by simp) ?_
                    refine AllReadyIn.cons rfl (fun K hK => ?_) ?_
                    · go_simp
                      refine hK _ _ ?_; clear hK K
                      try simp only [Act.put, List.setIfInBounds_toArray, List.set_cons_zero, List.set_cons_succ]
                      refine wpAnyIn_done (by kernel_rfl) ?_ _
                      gi_wp2
                      exact hfin.out
                    exact AllReadyIn.nil
                  exact AllReadyIn.nil
                exact AllReadyIn.nil
              exact AllReadyIn.nil
            exact AllReadyIn.nil
          refine AllReadyIn.cons rfl (fun K hK => ?_) ?_
          · go_simp
            refine hK _ _ ?_; clear hK K
            try simp only [Act.put, List.setIfInBounds_toArray, List.set_cons_zero, List.set_cons_succ]
            refine wpAnyIn_ready (rs := [0, 3]) (by kernel_rfl) (by simp) ?_
            refine AllReadyIn.cons rfl (fun K hK => ?_) ?_
            · go_simp
              refine hK _ _ ?_; clear hK K
              try simp only [Act.put, List.setIfInBounds_toArray, List.set_cons_zero, List.set_cons_succ]
              refine wpAnyIn_ready (rs := [3]) (by kernel_rfl) (by simp) ?_
              refine AllReadyIn.cons rfl (fun K hK => ?_) ?_
              · gi_wp2_with (refine ⟨trivial, (CallsIn.inRound l (callsIn_wide.2 (HC.out _ hDdr.out))).mono ?_⟩; rintro e w5 ⟨rfl, rfl⟩)
                try simp only [Act.put, List.setIfInBounds_toArray, List.set_cons_zero, List.set_cons_succ]
                refine wpAnyIn_ready (rs := [4]) (by kernel_rfl) (by simp) ?_
                refine AllReadyIn.cons rfl (fun K hK => ?_) ?_
                · go_simp
                  refine hK _ _ ?_; clear hK K
                  try simp only [Act.put, List.setIfInBounds_toArray, List.set_cons_zero, List.set_cons_succ]
                  refine wpAnyIn_ready (rs := [5]) (by kernel_rfl) (by simp) ?_
                  refine AllReadyIn.cons (o := { dst := some 25, op := Op.call { callee := Callee.builtin Builtin.append, args := #[Operand.tmp 20, Operand.tmp 24], argTypes := #[33, 33] }, type := 33, pos := "pmem.go:170", after := #[{ on := 0, ground := Ground.data }, { on := 4, ground := Ground.data }, { on := 3, ground := Ground.chain }], guard := none }) rfl (fun K hK => ?_) ?_
                  · refine Eq.mp (if_pos (by rfl)).symm ?_; refine step_append (v := .slice ad s.length cap) (y := .slice (some ⟨W.heap.size, 0, none⟩) 1 1) _ _ 33 rfl rfl rfl hap ?_
                    refine hK _ _ ?_; clear hK K
                    try simp only [Act.put, List.setIfInBounds_toArray, List.set_cons_zero, List.set_cons_succ]
                    refine wpAnyIn_ready (rs := [6]) (by kernel_rfl) (by simp) ?_
                    refine AllReadyIn.cons rfl (fun K hK => ?_) ?_
                    · go_simp
                      refine hK _ _ ?_; clear hK K
                      try simp only [Act.put, List.setIfInBounds_toArray, List.set_cons_zero, List.set_cons_succ]
                      refine wpAnyIn_done (by kernel_rfl) ?_ _
                      gi_wp2
                      exact hfin.out
                    exact AllReadyIn.nil
                  exact AllReadyIn.nil
                exact AllReadyIn.nil
              exact AllReadyIn.nil
            refine AllReadyIn.cons rfl (fun K hK => ?_) ?_
            · gi_wp2_with (refine ⟨trivial, (CallsIn.inRound l (callsIn_wide.2 (HC.out _ hDdr.out))).mono ?_⟩; rintro e w5 ⟨rfl, rfl⟩)
              try simp only [Act.put, List.setIfInBounds_toArray, List.set_cons_zero, List.set_cons_succ]
              refine wpAnyIn_ready (rs := [0, 4]) (by kernel_rfl) (by simp) ?_
              refine AllReadyIn.cons rfl (fun K hK => ?_) ?_
              · go_simp
                refine hK _ _ ?_; clear hK K
                try simp only [Act.put, List.setIfInBounds_toArray, List.set_cons_zero, List.set_cons_succ]
                refine wpAnyIn_ready (rs := [4]) (by kernel_rfl) (by simp) ?_
                refine AllReadyIn.cons rfl (fun K hK => ?_) ?_
                · go_simp
                  refine hK _ _ ?_; clear hK K
                  try simp only [Act.put, List.setIfInBounds_toArray, List.set_cons_zero, List.set_cons_succ]
                  refine wpAnyIn_ready (rs := [5]) (by kernel_rfl) (by simp) ?_
                  refine AllReadyIn.cons (o := { dst := some 25, op := Op.call { callee := Callee.builtin Builtin.append, args := #[Operand.tmp 20, Operand.tmp 24], argTypes := #[33, 33] }, type := 33, pos := "pmem.go:170", after := #[{ on := 0, ground := Ground.data }, { on := 4, ground := Ground.data }, { on := 3, ground := Ground.chain }], guard := none }) rfl (fun K hK => ?_) ?_
                  · refine Eq.mp (if_pos (by rfl)).symm ?_; refine step_append (v := .slice ad s.length cap) (y := .slice (some ⟨W.heap.size, 0, none⟩) 1 1) _ _ 33 rfl rfl rfl hap ?_
                    refine hK _ _ ?_; clear hK K
                    try simp only [Act.put, List.setIfInBounds_toArray, List.set_cons_zero, List.set_cons_succ]
                    refine wpAnyIn_ready (rs := [6]) (by kernel_rfl) (by simp) ?_
                    refine AllReadyIn.cons rfl (fun K hK => ?_) ?_
                    · go_simp
                      refine hK _ _ ?_; clear hK K
                      try simp only [Act.put, List.setIfInBounds_toArray, List.set_cons_zero, List.set_cons_succ]
                      refine wpAnyIn_done (by kernel_rfl) ?_ _
                      gi_wp2
                      exact hfin.out
                    exact AllReadyIn.nil
                  exact AllReadyIn.nil
                exact AllReadyIn.nil
              refine AllReadyIn.cons rfl (fun K hK => ?_) ?_
              · go_simp
                refine hK _ _ ?_; clear hK K
                try simp only [Act.put, List.setIfInBounds_toArray, List.set_cons_zero, List.set_cons_succ]
                refine wpAnyIn_ready (rs := [0]) (by kernel_rfl) (by simp) ?_
                refine AllReadyIn.cons rfl (fun K hK => ?_) ?_
                · go_simp
                  refine hK _ _ ?_; clear hK K
                  try simp only [Act.put, List.setIfInBounds_toArray, List.set_cons_zero, List.set_cons_succ]
                  refine wpAnyIn_ready (rs := [5]) (by kernel_rfl) (by simp) ?_
                  refine AllReadyIn.cons (o := { dst := some 25, op := Op.call { callee := Callee.builtin Builtin.append, args := #[Operand.tmp 20, Operand.tmp 24], argTypes := #[33, 33] }, type := 33, pos := "pmem.go:170", after := #[{ on := 0, ground := Ground.data }, { on := 4, ground := Ground.data }, { on := 3, ground := Ground.chain }], guard := none }) rfl (fun K hK => ?_) ?_
                  · refine Eq.mp (if_pos (by rfl)).symm ?_; refine step_append (v := .slice ad s.length cap) (y := .slice (some ⟨W.heap.size, 0, none⟩) 1 1) _ _ 33 rfl rfl rfl hap ?_
                    refine hK _ _ ?_; clear hK K
                    try simp only [Act.put, List.setIfInBounds_toArray, List.set_cons_zero, List.set_cons_succ]
                    refine wpAnyIn_ready (rs := [6]) (by kernel_rfl) (by simp) ?_
                    refine AllReadyIn.cons rfl (fun K hK => ?_) ?_
                    · go_simp
                      refine hK _ _ ?_; clear hK K
                      try simp only [Act.put, List.setIfInBounds_toArray, List.set_cons_zero, List.set_cons_succ]
                      refine wpAnyIn_done (by kernel_rfl) ?_ _
                      gi_wp2
                      exact hfin.out
                    exact AllReadyIn.nil
                  exact AllReadyIn.nil
                exact AllReadyIn.nil
              exact AllReadyIn.nil
            exact AllReadyIn.nil
          exact AllReadyIn.nil
        exact AllReadyIn.nil
      case done =>
        rintro D W hD3 hL hK
        have hline := Lib.hid (gather_line (fun s (c : PW) => s ++ [c.sure]) ws j [])
        have hN2 := Lib.hid (show DevIs W d g ws ∧ W.heap[w.heap.size]? = some (.cells #[.func (.func 80) #[] #[]] 144 (0, 0)) ∧ (∃ v, W.heap[w.heap.size + 2]? = some (.cells #[v] 33 (0, 0)) ∧ W.ownsRow w.heap.size 44 1 v (8 * (j + 1)) ((gather (fun s c => s ++ [c.sure]) ws 0 (8 * (j + 1)) []).map wv)) ∧ w.grownBy W none ∧ Marks w.heap.size W W.heap.size ({ target := .collected D, args := #[] } :: ds) from by
          refine ⟨hL.dev, hL.fn, ?_, hL.grown, D, rfl, by omega, (Array.getElem?_eq_some_iff.1 hK).1, hK, hL.marks.up (by omega)⟩
          obtain ⟨v, h1, h2⟩ := hL.box
          refine ⟨v, h1, ?_⟩
          have e1 : (List.range 8).foldl (fun s x => s ++ [(ws.getD (8 * j + x) PW.nought).sure]) (gather (fun s c => s ++ [c.sure]) ws 0 (8 * j) []) = gather (fun s c => s ++ [c.sure]) ws 0 (8 * (j + 1)) [] := hline.out
          rw [e1, gather_len] at h2
          exact h2)
        gi_wp2
        refine ⟨⟨j + 1, _, _, _, _, _, _, _, _, ⟨by omega, hN2.out⟩, rfl⟩, ?_⟩
        simp [intOf]; omega
    · obtain rfl : j = N := by omega
      have hlt' : ¬ (j : Int) < (j : Int) := by omega
      obtain ⟨v, hv, ho⟩ := hB
      have cB : wr.cell? ⟨w.heap.size + 2, 0, none⟩ = some v := by unfold World.cell?; rw [hv]; rfl
      obtain ⟨ad, cap, rfl, _⟩ := row_slice ho
      have hrowv : ws.foldl (fun s (c : PW) => s ++ [c.sure]) [] = ws.map (·.sure) := by
        have : ∀ (ws : List PW) (s : List Nat), ws.foldl (fun s (c : PW) => s ++ [c.sure]) s = s ++ ws.map (·.sure) := by
          intro ws; induction ws with
          | nil => intro s; simp
          | cons c ws ih => intro s; rw [List.foldl_cons, ih]; simp
        simpa using this ws []
      have ho2 := Lib.hid (show wr.ownsRow w.heap.size 44 1 (.slice ad (8 * j) cap) n (ws.map fun c => wv c.sure) from by
        rw [gather_all _ ws [] (8 * j) (by rw [hn]; exact hN.out.symm), hrowv, List.map_map] at ho
        rw [hN.out]; exact ho)
      gi_wp2
      refine leaves_marks ds _ wr hM ?_
      intro w' hw'
      refine ⟨_, results_tmp rfl _ _ _, _, rfl, ?_, hw'.grown (Nat.le_refl _) hG⟩
      obtain ⟨hl1, hr1⟩ := ho2.out
      refine ⟨hl1, ?_⟩
      rcases hr1 with h1 | ⟨g', cap', cur, h1, h2, h3, h4⟩
      · exact .inl h1
      · exact .inr ⟨g', cap', cur, h1, h2, hw'.cells _ _ _ _ h3, h4⟩
end Go.Proofs.YtpdofdloclmbdaaGreat
end
section
/- Package pmem: all that is seen. -/
-- OPTIONAL
namespace Go.Proofs.YtpdofdloclmbdaaGreat
open Go.RowKit Go.Grommet Go.Shelf
attribute [local go_sem] Oper.semAt_some

theorem theSeen_any (w : World) (d g : Nat) (ws : List PW) (h : DevIs w d g ws) (k : Nat) (c : PW) (hc : ws[k]? = some c) :
    Calls Tryz.prog 79 #[wordAt g k] w fun e w' => e = .returned (.int .u64 (c.seen : Int)) ∧ w' = w := by
  obtain ⟨f0, f1, f2, f3, f4, f5⟩ := h.get hc
  unfold wordAt
  clear h hc
  go_enter Tryz.func79, Tryz.ntmps79
  go_wp2
  go_ret
  exact ⟨rfl, rfl⟩

set_option maxRecDepth 100000 in
set_option maxHeartbeats 4000000 in
theorem allSeen_any (w : World) (d g : Nat) (ws : List PW) (h : DevIs w d g ws) (N : Nat) (hN : ws.length = 8 * N) :
    Calls Tryz.prog 78 #[ptr d, .func (.func 79) #[] #[]] w fun e w' => ∃ v, e = .returned v ∧ w'.ownsRow w.heap.size 44 1 v ws.length (ws.map fun c => wv c.seen) ∧ w.grownBy w' none := by
  have hf := h.fits
  have hN8 : ws.length / 8 = N := by omega
  have hrow := (Array.getElem?_eq_some_iff.1 h.row).1
  have hdd := (Array.getElem?_eq_some_iff.1 h.dev).1
  have hga := World.grownBy_alloc w (.cells #[.func (.func 79) #[] #[]] 144) none
  have ha := h.grown hga
  have HWd := Lib.hid (pm_Words_any _ d g ws ha)
  have hbf := heap_alloc_new w (.cells #[.func (.func 79) #[] #[]] 144)
  obtain ⟨i0, hi0, hz0, hz1, hz2⟩ := info_parts info64
  obtain ⟨n, hn⟩ : ∃ n, ws.length = n := ⟨_, rfl⟩
  rw [hn] at HWd hN hf hN8
  replace hN := Lib.hid hN
  have hmk : ∀ w', (Instr.makeSlice 33 (.int .i64 0) (.int .i64 (n : Int))).run Tryz.prog w' = .ok (.slice (some ⟨w'.heap.size, 0, none⟩) 0 n) (w'.alloc (.cells (madeCells (Value.cells (.int .u64 0)) n) 44)) := by
    intro w'
    have := run_make (P := Tryz.prog) w' 33 44 i0 (.int .u64 0) Tryz.underlying33 hi0 hz0 .i64 .i64 0 n (Int.le_refl _) (by omega) (by rw [hz2]; omega) (by omega)
    rw [hz1, Nat.mul_one] at this
    exact this
  unfold ptr at HWd ⊢
  refine (callsIn_wide (n := 9)).1 ?_
  refine callsIn_of_wp_marks Tryz.func78 rfl trivial ?_ rfl
  simp only [Tryz.ntmps78, List.size_toArray, List.length_cons, List.length_nil, Nat.reduceAdd, Nat.reduceSub, Array.replicate_succ, Array.replicate_zero, List.push_toArray, List.append_toArray, List.nil_append, List.cons_append]
  gi_wp2_with fail
  generalize hwa : w.alloc (.cells #[.func (.func 79) #[] #[]] 144) = wa at hga ha hbf HWd ⊢
  refine ⟨trivial, (callsIn_wide.2 HWd.out).mono ?_⟩
  rintro e w1 ⟨rfl, rfl⟩
  have hsa : w1.heap.size = w.heap.size + 1 := by rw [← hwa]; simp
  gi_wp2_with fail
  have hr1 := heap_alloc_new w1 (.cells (madeCells (Value.cells (.int .u64 0)) n) 44)
  have hb1 := heap_alloc_new (w1.alloc (.cells (madeCells (Value.cells (.int .u64 0)) n) 44)) (.cells #[.slice (some ⟨w.heap.size + 1, 0, none⟩) 0 n] 33)
  have hg2 := grown_trans (World.grownBy_alloc w1 (.cells (madeCells (Value.cells (.int .u64 0)) n) 44) none) (World.grownBy_alloc (w1.alloc (.cells (madeCells (Value.cells (.int .u64 0)) n) 44)) (.cells #[.slice (some ⟨w.heap.size + 1, 0, none⟩) 0 n] 33) none)
  have hr2 := ((World.grownBy_alloc (w1.alloc (.cells (madeCells (Value.cells (.int .u64 0)) n) 44)) (.cells #[.slice (some ⟨w.heap.size + 1, 0, none⟩) 0 n] 33) none).block w1.heap.size (by simp) (by simp)).trans hr1
  have hmc : (madeCells (Value.cells (.int .u64 0)) n).size = n := by simp [madeCells, Value.cells]
  rw [World.size_alloc] at hb1
  generalize hw3 : (w1.alloc (.cells (madeCells (Value.cells (.int .u64 0)) n) 44)).alloc (.cells #[.slice (some ⟨w.heap.size + 1, 0, none⟩) 0 n] 33) = w3 at hb1 hg2 hr2
  simp only [Value.cells] at hw3
  rw [hw3]
  have hs3 : w3.heap.size = w.heap.size + 3 := by rw [← hw3]; simp; omega
  clear hw3 hwa hr1
  have h3 := ha.grown hg2
  have hf3 := (hg2.block _ (by omega) (by simp)).trans hbf
  have hB3 : w3.heap[w.heap.size + 2]? = some (.cells #[.slice (some ⟨w.heap.size + 1, 0, none⟩) 0 n] 33 (0, 0)) := by rw [hsa] at hb1; exact hb1
  have hO3 : w3.ownsRow w.heap.size 44 1 (.slice (some ⟨w.heap.size + 1, 0, none⟩) 0 n) 0 [] :=
    ⟨rfl, .inr ⟨w.heap.size + 1, n, _, rfl, by omega, by rw [hsa] at hr2; exact hr2, Nat.zero_le _, by unfold maxLen; omega, by rw [hmc, Nat.mul_one], by simp⟩⟩
  have hG3 : w.grownBy w3 none := grown_trans hga hg2
  have HL := Lib.hid (lines_any _ d g ws h3)
  rw [hn, hN8] at HL
  unfold ptr at HL
  clear hmk hga ha hbf HWd hr2 hb1 hg2 hmc
  refine ⟨trivial, (callsIn_wide.2 HL.out).mono ?_⟩
  rintro e w1 ⟨rfl, rfl⟩
  gi_wp2_with fail
  refine wpIn_loop (fun a' w' => ∃ (j : Nat) (u6 u14 u15 u16 u17 u18 u26 : Value) (ds : List Deferred), (j ≤ N ∧ DevIs w' d g ws ∧ w'.heap[w.heap.size]? = some (.cells #[.func (.func 79) #[] #[]] 144 (0, 0)) ∧ (∃ v, w'.heap[w.heap.size + 2]? = some (.cells #[v] 33 (0, 0)) ∧ w'.ownsRow w.heap.size 44 1 v (8 * j) ((gather (fun s c => s ++ [c.seen]) ws 0 (8 * j) []).map wv)) ∧ w.grownBy w' none ∧ Marks w.heap.size w' w'.heap.size ds) ∧ a' = { tmps := #[.pointer (some ⟨d, 0, none⟩), .func (.func 79) #[] #[], undef, .pointer (some ⟨w.heap.size, 0, none⟩), .slice none 0 0, .pointer (some ⟨w.heap.size + 2, 0, none⟩), u6, undef, .pointer (some ⟨d, 0, none⟩), .int .i64 (n : Int), .slice (some ⟨w.heap.size + 1, 0, none⟩) 0 n, .pointer (some ⟨d, 0, none⟩), .int .i64 (N : Int), .int .i64 (j : Int), u14, u15, u16, u17, u18, undef, undef, undef, undef, undef, undef, undef, u26, undef], defers := ds })
    (fun a' _ => N - (intOf (a'.tmps.getD 13 undef)).toNat) ?start ?round
  case start => exact ⟨0, _, _, _, _, _, _, _, [], ⟨Nat.zero_le _, h3, hf3, ⟨_, hB3, hO3⟩, hG3, trivial⟩, rfl⟩
  case round =>
    rintro _ wr ⟨j, u6, u14, u15, u16, u17, u18, u26, ds, ⟨hj, hD, hF, hB, hG, hM⟩, rfl⟩
    have j0 : (0 : Int) ≤ (j : Int) := by omega
    have hBs : w.heap.size + 2 < wr.heap.size := by obtain ⟨v, hv, _⟩ := hB; exact (Array.getElem?_eq_some_iff.1 hv).1
    by_cases hlt : j < N
    · have hlt' : (j : Int) < (N : Int) := by omega
      have wj : IntKind.i64.wrap ((j : Int) + 1) = (j : Int) + 1 := IntWalk.i64_in _ ⟨by omega, by omega⟩
      gi_wp2_with fail
      refine ⟨trivial, (callsIn_wide.2 (line_any wr d j)).mono ?_⟩
      rintro e w2 ⟨rfl, hw2⟩
      obtain ⟨b1, b2, hg2, hs2, hk2⟩ := boxes_new wr d j w2 hw2
      have hD2 := hD.grown hg2
      have hM2 := (hM.keeps hk2).up (by omega : wr.heap.size ≤ w2.heap.size)
      have hF2 := (hg2.block _ (by omega) (by simp)).trans hF
      have hB2 : ∃ v, w2.heap[w.heap.size + 2]? = some (.cells #[v] 33 (0, 0)) ∧ w2.ownsRow w.heap.size 44 1 v (gather (fun s c => s ++ [c.seen]) ws 0 (8 * j) []).length ((gather (fun s c => s ++ [c.seen]) ws 0 (8 * j) []).map wv) := by
        obtain ⟨v, h1, h2⟩ := hB
        refine ⟨v, (hg2.block _ hBs (by simp)).trans h1, ?_⟩
        rw [gather_len]
        exact (Turn.of (F := fun _ => False) hg2 (fun _ e => by cases e)).row h2 (fun _ _ e => e)
      clear hw2 hB
      gi_wp2_with fail
      refine range_line2 (by decide) (bi := wr.heap.size + 1) (bd := wr.heap.size) (d := d) (g := g) (i := j) (n := ws.length) rfl rfl b1 b2 hD2.dev (by rw [hn]; have := hN.out; omega) (by rw [hn]; exact hf)
        (fun s x => s ++ [(ws.getD (8 * j + x) PW.nought).seen]) (gather (fun s c => s ++ [c.seen]) ws 0 (8 * j) []) (AllL 79 w d g wr.heap.size ws ds) (by rw [hs2]; exact AllL.own hdd hrow hBs) ⟨hD2, hF2, hB2, grown_trans hG hg2, by omega, by rw [← hs2]; exact hM2, ⟨_, b1⟩, ⟨_, b2⟩⟩
        (fun x => { tmps := #[ptr d, .func (.func 79) #[] #[], undef, ptr w.heap.size, .slice none 0 0, ptr (w.heap.size + 2), .int .i64 (j : Int), wordAt g (8 * j + x), ptr d, .int .i64 (n : Int), .slice (some ⟨w.heap.size + 1, 0, none⟩) 0 n, ptr d, .int .i64 (N : Int), .int .i64 (j : Int), .bool true, .int .i64 (j : Int), ptr d, .int .i64 (j : Int), .func (.func 103) #[] #[ptr (wr.heap.size + 1), ptr wr.heap.size], wordAt g (8 * j + x), undef, undef, undef, undef, undef, undef, u26, undef], defers := [] }) ?assign ?body ?done
      case assign =>
        intro l x W K hK
        gi_wp2
        exact hK
      case body =>
        rintro l pre x W hpre hx hL
        have hslen := step_len (ws := ws) (f := PW.seen) j pre (gather (fun s c => s ++ [c.seen]) ws 0 (8 * j) [])
        rw [gather_len] at hslen
        have hNo := hN.out
        generalize pre.foldl (fun s x => s ++ [(ws.getD (8 * j + x) PW.nought).seen]) (gather (fun s c => s ++ [c.seen]) ws 0 (8 * j) []) = s at hL hslen ⊢
        have hc : ws[8 * j + x]? = some (ws.getD (8 * j + x) PW.nought) := by
          rw [List.getD_eq_getElem?_getD, List.getElem?_eq_getElem (by omega : 8 * j + x < ws.length)]; rfl
        generalize hk : 8 * j + x = k at hc ⊢
        generalize ws.getD k PW.nought = c at hc ⊢
        obtain ⟨v, hv, hown⟩ := hL.box
        have cF : W.cell? ⟨w.heap.size, 0, none⟩ = some (.func (.func 79) #[] #[]) := by unfold World.cell?; rw [hL.fn]; rfl
        have cR : W.cell? ⟨w.heap.size + 2, 0, none⟩ = some v := by unfold World.cell?; rw [hv]; rfl
        have zR : W.frozen? ⟨w.heap.size + 2, 0, none⟩ = false := by simp [World.frozen?, hv]
        have HC := Lib.hid (fun (Wx : World) (hDx : DevIs Wx d g ws) => theSeen_any Wx d g ws hDx k c hc)
        have hDd := Lib.hid hL.dev
        have hDdr := Lib.hid (show DevIs W.drew d g ws from ⟨hL.dev.dev, hL.dev.row, hL.dev.ne, hL.dev.fits, hL.dev.small⟩)
        have hmix : Tryz.prog.follows .mixedOrders = true := by kernel_rfl
        obtain ⟨ad, cap, rfl, _⟩ := row_slice hown
        have hownA : (W.drew.alloc (.cells #[.int .u64 (c.seen : Int)] 44)).ownsRow w.heap.size 44 1 (.slice ad s.length cap) s.length (s.map wv) :=
          (Turn.of (F := fun _ => False) (grown_trans (grown_drew (World.grownBy.refl W none)) (World.grownBy_alloc W.drew (.cells #[.int .u64 (c.seen : Int)] 44) none)) (fun _ e => by cases e)).row hown (fun _ _ e => e)
        have hszL := hL.size
        obtain ⟨v', w', hap, ho', hg', _, hwhere⟩ := run_append_own_at (P := Tryz.prog) (W.drew.alloc (.cells #[.int .u64 (c.seen : Int)] 44)) w.heap.size 33 33 44 i0 (.int .u64 0) 1 8 Tryz.underlying33 hi0 hz0 hz1 hz2 rfl (by decide) _ s.length (s.map wv) hownA ⟨W.heap.size, 0, none⟩ 1 1 [.int .u64 (c.seen : Int)] rfl (cell_one_new _ _ _) (by simp [Value.oneCell']) (by unfold maxLen; omega) (by omega) (by simp; omega)
        obtain ⟨ad', cap', rfl, _⟩ := row_slice ho'
        have hgA : W.grownBy (W.drew.alloc (.cells #[.int .u64 (c.seen : Int)] 44)) none := grown_trans (grown_drew (World.grownBy.refl W none)) (World.grownBy_alloc W.drew (.cells #[.int .u64 (c.seen : Int)] 44) none)
        have hbA := (hgA.block _ (Array.getElem?_eq_some_iff.1 hv).1 (by simp)).trans hv
        have hfA := (hgA.block _ (Array.getElem?_eq_some_iff.1 hL.fn).1 (by simp)).trans hL.fn
        have hdA := hL.dev.grown hgA
        have hkA : KeepsOthers W (W.drew.alloc (.cells #[.int .u64 (c.seen : Int)] 44)) := (KeepsOthers.drew W).trans (KeepsOthers.alloc _ _)
        have cRA : (W.alloc (.cells #[.int .u64 (c.seen : Int)] 44)).cell? ⟨w.heap.size + 2, 0, none⟩ = some (.slice ad s.length cap) := by
          have : (W.drew.alloc (.cells #[.int .u64 (c.seen : Int)] 44)).cell? ⟨w.heap.size + 2, 0, none⟩ = some (.slice ad s.length cap) := by unfold World.cell?; rw [hbA]; rfl
          exact this
        have hfin := Lib.hid (AllL.round hL hdd hrow hBs hgA hbA hfA hdA hownA hg' ho' hkA)
        have hbw := AllL.boxes hbA hownA hg'
        have cR' : w'.cell? ⟨w.heap.size + 2, 0, none⟩ = some (.slice ad s.length cap) := by unfold World.cell?; rw [hbw]; rfl
        have zR' : w'.frozen? ⟨w.heap.size + 2, 0, none⟩ = false := by simp [World.frozen?, hbw]
        clear hslen hNo
        clear hbw hgA hbA hfA hdA hkA hownA hg' ho' hwhere hL hown hv
        unfold wordAt ptr at *
        gi_wp2_with fail
        refine wpIn_region_any hmix ?_
        change wpAnyIn _ _ _ _ _ _ _ _ _ (World.drew _)
        refine wpAnyIn_ready (rs := [0, 1, 2]) (by kernel_rfl) (by simp) ?_
        refine AllReadyIn.cons rfl (fun K hK => ?_) ?_
        · go_simp
          refine hK _ _ ?_; clear hK K
          try simp only [Act.put, List.setIfInBounds_toArray, List.set_cons_zero, List.set_cons_succ]
          refine wpAnyIn_ready (rs := [1, 2]) (by kernel_rfl) (by simp) ?_
          refine AllReadyIn.cons rfl (fun K hK => ?_) ?_
          · go_simp
            refine hK _ _ ?_; clear hK K
            try simp only [Act.put, List.setIfInBounds_toArray, List.set_cons_zero, List.set_cons_succ]
            refine wpAnyIn_ready (rs := [2]) (by kernel_rfl) (by simp) ?_
            refine AllReadyIn.cons rfl (fun K hK => ?_) ?_
            · go_simp
              refine hK _ _ ?_; clear hK K
              try simp only [Act.put, List.setIfInBounds_toArray, List.set_cons_zero, List.set_cons_succ]
              refine wpAnyIn_ready (rs := [3]) (by kernel_rfl) (by simp) ?_
              refine AllReadyIn.cons rfl (fun K hK => ?_) ?_
              · gi_wp2_with (refine ⟨trivial, (CallsIn.inRound l (callsIn_wide.2 (HC.out _ hDdr.out))).mono ?_⟩; rintro e w5 ⟨rfl, rfl⟩)
                try simp only [Act.put, List.setIfInBounds_toArray, List.set_cons_zero, List.set_cons_succ]
                refine wpAnyIn_ready (rs := [4]) (by kernel_rfl) (by simp) ?_
                refine AllReadyIn.cons rfl (fun K hK => ?_) ?_
                · go_simp
                  refine hK _ _ ?_; clear hK K
                  try simp only [Act.put, List.setIfInBounds_toArray, List.set_cons_zero, List.set_cons_succ]
                  refine wpAnyIn_ready (rs := [5]) (by kernel_rfl) (by simp) ?_
                  refine AllReadyIn.cons (o := { dst := some 25, op := Op.call { callee := Callee.builtin Builtin.append, args := #[Operand.tmp 20, Operand.tmp 24], argTypes := #[33, 33] }, type := 33, pos := "pmem.go:170", after := #[{ on := 0, ground := Ground.data }, { on := 4, ground := Ground.data }, { on := 3, ground := Ground.chain }], guard := none }) rfl (fun K hK => ?_) ?_
                  · refine Eq.mp (if_pos (by rfl)).symm ?_; refine step_append (v := .slice ad s.length cap) (y := .slice (some ⟨W.heap.size, 0, none⟩) 1 1) _ _ 33 rfl rfl rfl hap ?_
                    refine hK _ _ ?_; clear hK K
                    try simp only [Act.put, List.setIfInBounds_toArray, List.set_cons_zero, List.set_cons_succ]
                    refine wpAnyIn_ready (rs := [6]) (by kernel_rfl) (by simp) ?_
                    refine AllReadyIn.cons rfl (fun K hK => ?_) ?_
                    · go_simp
                      refine hK _ _ ?_; clear hK K
                      try simp only [Act.put, List.setIfInBounds_toArray, List.set_cons_zero, List.set_cons_succ]
                      refine wpAnyIn_done (by kernel_rfl) ?_ _
                      gi_wp2
                      exact hfin.out
                    exact AllReadyIn.nil
                  exact AllReadyIn.nil
                exact AllReadyIn.nil
              exact AllReadyIn.nil
            exact AllReadyIn.nil
          refine AllReadyIn.cons rfl (fun K hK => ?_) ?_
          · go_simp
            refine hK _ _ ?_; clear hK K
            try simp only [Act.put, List.setIfInBounds_toArray, List.set_cons_zero, List.set_cons_succ]
            refine wpAnyIn_ready (rs := [1]) (by kernel_rfl) (by simp) ?_
            refine AllReadyIn.cons rfl (fun K hK => ?_) ?_
            · go_simp
              refine hK _ _ ?_; clear hK K
              try simp only [Act.put, List.setIfInBounds_toArray, List.set_cons_zero, List.set_cons_succ]
              refine wpAnyIn_ready (rs := [3]) (by kernel_rfl) (by simp) ?_
              refine AllReadyIn.cons rfl (fun K hK => ?_) ?_
              · gi_wp2_with (refine ⟨trivial, (CallsIn.inRound l (callsIn_wide.2 (HC.out _ hDdr.out))).mono ?_⟩; rintro e w5 ⟨rfl, rfl⟩)
                try simp only [Act.put, List.setIfInBounds_toArray, List.set_cons_zero, List.set_cons_succ]
                refine wpAnyIn_ready (rs := [4]) (by kernel_rfl) (by simp) ?_
                refine AllReadyIn.cons rfl (fun K hK => ?_) ?_
                · go_simp
                  refine hK _ _ ?_; clear hK K
                  try simp only [Act.put, List.setIfInBounds_toArray, List.set_cons_zero, List.set_cons_succ]
                  refine wpAnyIn_ready (rs := [5]) (by kernel_rfl) (by simp) ?_
                  refine AllReadyIn.cons (o := { dst := some 25, op := Op.call { callee := Callee.builtin Builtin.append, args := #[Operand.tmp 20, Operand.tmp 24], argTypes := #[33, 33] }, type := 33, pos := "pmem.go:170", after := #[{ on := 0, ground := Ground.data }, { on := 4, ground := Ground.data }, { on := 3, ground := Ground.chain }], guard := none }) rfl (fun K hK => ?_) ?_
                  · refine Eq.mp (if_pos (by rfl)).symm ?_; refine step_append (v := .slice ad s.length cap) (y := .slice (some ⟨W.heap.size, 0, none⟩) 1 1) _ _ 33 rfl rfl rfl hap ?_
                    refine hK _ _ ?_; clear hK K
                    try simp only [Act.put, List.setIfInBounds_toArray, List.set_cons_zero, List.set_cons_succ]
                    refine wpAnyIn_ready (rs := [6]) (by kernel_rfl) (by simp) ?_
                    refine AllReadyIn.cons rfl (fun K hK => ?_) ?_
                    · go_simp
                      refine hK _ _ ?_; clear hK K
                      try simp only [Act.put, List.setIfInBounds_toArray, List.set_cons_zero, List.set_cons_succ]
                      refine wpAnyIn_done (by kernel_rfl) ?_ _
                      gi_wp2
                      exact hfin.out
                    exact AllReadyIn.nil
                  exact AllReadyIn.nil
                exact AllReadyIn.nil
              exact AllReadyIn.nil
            exact AllReadyIn.nil
          exact AllReadyIn.nil
        refine AllReadyIn.cons rfl (fun K hK => ?_) ?_
        · go_simp
          refine hK _ _ ?_; clear hK K
          try simp only [Act.put, List.setIfInBounds_toArray, List.set_cons_zero, List.set_cons_succ]
          refine wpAnyIn_ready (rs := [0, 2]) (by kernel_rfl) (by simp) ?_
          refine AllReadyIn.cons rfl (fun K hK => ?_) ?_
          · go_simp
            refine hK _ _ ?_; clear hK K
            try simp only [Act.put, List.setIfInBounds_toArray, List.set_cons_zero, List.set_cons_succ]
            refine wpAnyIn_ready (rs := [2]) (by kernel_rfl) (by simp) ?_
            refine AllReadyIn.cons rfl (fun K hK => ?_) ?_
            · go_simp
              refine hK _ _ ?_; clear hK K
              try simp only [Act.put, List.setIfInBounds_toArray, List.set_cons_zero, List.set_cons_succ]
              refine wpAnyIn_ready (rs := [3]) (by kernel_rfl) (by simp) ?_
              refine AllReadyIn.cons rfl (fun K hK => ?_) ?_
              · gi_wp2_with (refine ⟨trivial, (CallsIn.inRound l (callsIn_wide.2 (HC.out _ hDdr.out))).mono ?_⟩; rintro e w5 ⟨rfl, rfl⟩)
                try simp only [Act.put, List.setIfInBounds_toArray, List.set_cons_zero, List.set_cons_succ]
                refine wpAnyIn_ready (rs := [4]) (by kernel_rfl) (by simp) ?_
                refine AllReadyIn.cons rfl (fun K hK => ?_) ?_
                · go_simp
                  refine hK _ _ ?_; clear hK K
                  try simp only [Act.put, List.setIfInBounds_toArray, List.set_cons_zero, List.set_cons_succ]
                  refine wpAnyIn_ready (rs := [5]) (by kernel_rfl) (by simp) ?_
                  refine AllReadyIn.cons (o := { dst := some 25, op := Op.call { callee := Callee.builtin Builtin.append, args := #[Operand.tmp 20, Operand.tmp 24], argTypes := #[33, 33] }, type := 33, pos := "pmem.go:170", after := #[{ on := 0, ground := Ground.data }, { on := 4, ground := Ground.data }, { on := 3, ground := Ground.chain }], guard := none }) rfl (fun K hK => ?_) ?_
                  · refine Eq.mp (if_pos (by rfl)).symm ?_; refine step_append (v := .slice ad s.length cap) (y := .slice (some ⟨W.heap.size, 0, none⟩) 1 1) _ _ 33 rfl rfl rfl hap ?_
                    refine hK _ _ ?_; clear hK K
                    try simp only [Act.put, List.setIfInBounds_toArray, List.set_cons_zero, List.set_cons_succ]
                    refine wpAnyIn_ready (rs := [6]) (by kernel_rfl) (by simp) ?_
                    refine AllReadyIn.cons rfl (fun K hK => ?_) ?_
                    · go_simp
                      refine hK _ _ ?_; clear hK K
                      try simp only [Act.put, List.setIfInBounds_toArray, List.set_cons_zero, List.set_cons_succ]
                      refine wpAnyIn_done (by kernel_rfl) ?_ _
                      gi_wp2
                      exact hfin.out
                    exact AllReadyIn.nil
                  exact AllReadyIn.nil
                exact AllReadyIn.nil
              exact AllReadyIn.nil
            exact AllReadyIn.nil
          refine AllReadyIn.cons rfl (fun K hK => ?_) ?_
          · go_simp
            refine hK _ _ ?_; clear hK K
            try simp only [Act.put, List.setIfInBounds_toArray, List.set_cons_zero, List.set_cons_succ]
            refine wpAnyIn_ready (rs := [0, 3]) (by kernel_rfl) (by simp) ?_
            refine AllReadyIn.cons rfl (fun K hK => ?_) ?_
            · go_simp
              refine hK _ _ ?_; clear hK K
              try simp only [Act.put, List.setIfInBounds_toArray, List.set_cons_zero, List.set_cons_succ]
              refine wpAnyIn_ready (rs := [3]) (by kernel_rfl) (by simp) ?_
              refine AllReadyIn.cons rfl (fun K hK => ?_) ?_
              · gi_wp2_with (refine ⟨trivial, (CallsIn.inRound l (callsIn_wide.2 (HC.out _ hDdr.out))).mono ?_⟩; rintro e w5 ⟨rfl, rfl⟩)
                try simp only [Act.put, List.setIfInBounds_toArray, List.set_cons_zero, List.set_cons_succ]
                refine wpAnyIn_ready (rs := [4]) (by kernel_rfl) (by simp) ?_
                refine AllReadyIn.cons rfl (fun K hK => ?_) ?_
                · go_simp
                  refine hK _ _ ?_; clear hK K
                  try simp only [Act.put, List.setIfInBounds_toArray, List.set_cons_zero, List.set_cons_succ]
                  refine wpAnyIn_ready (rs := [5]) (by kernel_rfl) (by simp) ?_
                  refine AllReadyIn.cons (o := { dst := some 25, op := Op.call { callee := Callee.builtin Builtin.append, args := #[Operand.tmp 20, Operand.tmp 24], argTypes := #[33, 33] }, type := 33, pos := "pmem.go:170", after := #[{ on := 0, ground := Ground.data }, { on := 4, ground := Ground.data }, { on := 3, ground := Ground.chain }], guard := none }) rfl (fun K hK => ?_) ?_
                  · refine Eq.mp (if_pos (by rfl)).symm ?_; refine step_append (v := .slice ad s.length cap) (y := .slice (some ⟨W.heap.size, 0, none⟩) 1 1) _ _ 33 rfl rfl rfl hap ?_
                    refine hK _ _ ?_; clear hK K
                    try simp only [Act.put, List.setIfInBounds_toArray, List.set_cons_zero, List.set_cons_succ]
                    refine wpAnyIn_ready (rs := [6]) (by kernel_rfl) (by simp) ?_
                    refine AllReadyIn.cons rfl (fun K hK => ?_) ?_
                    · go_simp
                      refine hK _ _ ?_; clear hK K
                      try simp only [Act.put, List.setIfInBounds_toArray, List.set_cons_zero, List.set_cons_succ]
                      refine wpAnyIn_done (by kernel_rfl) ?_ _
                      gi_wp2
                      exact hfin.out
                    exact AllReadyIn.nil
                  exact AllReadyIn.nil
                exact AllReadyIn.nil
              exact AllReadyIn.nil
            refine AllReadyIn.cons rfl (fun K hK => ?_) ?_
            · gi_wp2_with (refine ⟨trivial, (CallsIn.inRound l (callsIn_wide.2 (HC.out _ hDdr.out))).mono ?_⟩; rintro e w5 ⟨rfl, rfl⟩)
              try simp only [Act.put, List.setIfInBounds_toArray, List.set_cons_zero, List.set_cons_succ]
              refine wpAnyIn_ready (rs := [0, 4]) (by kernel_rfl) (by simp) ?_
              refine AllReadyIn.cons rfl (fun K hK => ?_) ?_
              · go_simp
                refine hK _ _ ?_; clear hK K
                try simp only [Act.put, List.setIfInBounds_toArray, List.set_cons_zero, List.set_cons_succ]
                refine wpAnyIn_ready (rs := [4]) (by kernel_rfl) (by simp) ?_
                refine AllReadyIn.cons rfl (fun K hK => ?_) ?_
                · go_simp
                  refine hK _ _ ?_; clear hK K
                  try simp only [Act.put, List.setIfInBounds_toArray, List.set_cons_zero, List.set_cons_succ]
                  refine wpAnyIn_ready (rs := [5]) (by kernel_rfl) (by simp) ?_
                  refine AllReadyIn.cons (o := { dst := some 25, op := Op.call { callee := Callee.builtin Builtin.append, args := #[Operand.tmp 20, Operand.tmp 24], argTypes := #[33, 33] }, type := 33, pos := "pmem.go:170", after := #[{ on := 0, ground := Ground.data }, { on := 4, ground := Ground.data }, { on := 3, ground := Ground.chain }], guard := none }) rfl (fun K hK => ?_) ?_
                  · refine Eq.mp (if_pos (by rfl)).symm ?_; refine step_append (v := .slice ad s.length cap) (y := .slice (some ⟨W.heap.size, 0, none⟩) 1 1) _ _ 33 rfl rfl rfl hap ?_
                    refine hK _ _ ?_; clear hK K
                    try simp only [Act.put, List.setIfInBounds_toArray, List.set_cons_zero, List.set_cons_succ]
                    refine wpAnyIn_ready (rs := [6]) (by kernel_rfl) (by simp) ?_
                    refine AllReadyIn.cons rfl (fun K hK => ?_) ?_
                    · go_simp
                      refine hK _ _ ?_; clear hK K
                      try simp only [Act.put, List.setIfInBounds_toArray, List.set_cons_zero, List.set_cons_succ]
                      refine wpAnyIn_done (by kernel_rfl) ?_ _
                      gi_wp2
                      exact hfin.out
                    exact AllReadyIn.nil
                  exact AllReadyIn.nil
                exact AllReadyIn.nil
              refine AllReadyIn.cons rfl (fun K hK => ?_) ?_
              · go_simp
                refine hK _ _ ?_; clear hK K
                try simp only [Act.put, List.setIfInBounds_toArray, List.set_cons_zero, List.set_cons_succ]
                refine wpAnyIn_ready (rs := [0]) (by kernel_rfl) (by simp) ?_
                refine AllReadyIn.cons rfl (fun K hK => ?_) ?_
                · go_simp
                  refine hK _ _ ?_; clear hK K
                  try simp only [Act.put, List.setIfInBounds_toArray, List.set_cons_zero, List.set_cons_succ]
                  refine wpAnyIn_ready (rs := [5]) (by kernel_rfl) (by simp) ?_
                  refine AllReadyIn.cons (o := { dst := some 25, op := Op.call { callee := Callee.builtin Builtin.append, args := #[Operand.tmp 20, Operand.tmp 24], argTypes := #[33, 33] }, type := 33, pos := "pmem.go:170", after := #[{ on := 0, ground := Ground.data }, { on := 4, ground := Ground.data }, { on := 3, ground := Ground.chain }], guard := none }) rfl (fun K hK => ?_) ?_
                  · refine Eq.mp (if_pos (by rfl)).symm ?_; refine step_append (v := .slice ad s.length cap) (y := .slice (some ⟨W.heap.size, 0, none⟩) 1 1) _ _ 33 rfl rfl rfl hap ?_
                    refine hK _ _ ?_; clear hK K
                    try simp only [Act.put, List.setIfInBounds_toArray, List.set_cons_zero, List.set_cons_succ]
                    refine wpAnyIn_ready (rs := [6]) (by kernel_rfl) (by simp) ?_
                    refine AllReadyIn.cons rfl (fun K hK => ?_) ?_
                    · go_simp
                      refine hK _ _ ?_; clear hK K
                      try simp only [Act.put, List.setIfInBounds_toArray, List.set_cons_zero, List.set_cons_succ]
                      refine wpAnyIn_done (by kernel_rfl) ?_ _
                      gi_wp2
                      exact hfin.out
                    exact AllReadyIn.nil
                  exact AllReadyIn.nil
                exact AllReadyIn.nil
              exact AllReadyIn.nil
            exact AllReadyIn.nil
          exact AllReadyIn.nil
        refine AllReadyIn.cons rfl (fun K hK => ?_) ?_
        · go_simp
          refine hK _ _ ?_; clear hK K
          try simp only [Act.put, List.setIfInBounds_toArray, List.set_cons_zero, List.set_cons_succ]
          refine wpAnyIn_ready (rs := [0, 1]) (by kernel_rfl) (by simp) ?_
          refine AllReadyIn.cons rfl (fun K hK => ?_) ?_
          · go_simp
            refine hK _ _ ?_; clear hK K
            try simp only [Act.put, List.setIfInBounds_toArray, List.set_cons_zero, List.set_cons_succ]
            refine wpAnyIn_ready (rs := [1]) (by kernel_rfl) (by simp) ?_
            refine AllReadyIn.cons rfl (fun K hK => ?_) ?_
            · go_simp
              refine hK _ _ ?_; clear hK K
              try simp only [Act.put, List.setIfInBounds_toArray, List.set_cons_zero, List.set_cons_succ]
              refine wpAnyIn_ready (rs := [3]) (by kernel_rfl) (by simp) ?_
              refine AllReadyIn.cons rfl (fun K hK => ?_) ?_
              · gi_wp2_with (refine ⟨trivial, (CallsIn.inRound l (callsIn_wide.2 (HC.out _ hDdr.out))).mono ?_⟩; rintro e w5 ⟨rfl, rfl⟩)
                try simp only [Act.put, List.setIfInBounds_toArray, List.set_cons_zero, List.set_cons_succ]
                refine wpAnyIn_ready (rs := [4]) (by kernel_rfl) (by simp) ?_
                refine AllReadyIn.cons rfl (fun K hK => ?_) ?_
                · go_simp
                  refine hK _ _ ?_; clear hK K
                  try simp only [Act.put, List.setIfInBounds_toArray, List.set_cons_zero, List.set_cons_succ]
                  refine wpAnyIn_ready (rs := [5]) (by kernel_rfl) (by simp) ?_
                  refine AllReadyIn.cons (o := { dst := some 25, op := Op.call { callee := Callee.builtin Builtin.append, args := #[Operand.tmp 20, Operand.tmp 24], argTypes := #[33, 33] }, type := 33, pos := "pmem.go:170", after := #[{ on := 0, ground := Ground.data }, { on := 4, ground := Ground.data }, { on := 3, ground := Ground.chain }], guard := none }) rfl (fun K hK => ?_) ?_
                  · refine Eq.mp (if_pos (by rfl)).symm ?_; refine step_append (v := .slice ad s.length cap) (y := .slice (some ⟨W.heap.size, 0, none⟩) 1 1) _ _ 33 rfl rfl rfl hap ?_
                    refine hK _ _ ?_; clear hK K
                    try simp only [Act.put, List.setIfInBounds_toArray, List.set_cons_zero, List.set_cons_succ]
                    refine wpAnyIn_ready (rs := [6]) (by kernel_rfl) (by simp) ?_
                    refine AllReadyIn.cons rfl (fun K hK => ?_) ?_
                    · go_simp
                      refine hK _ _ ?_; clear hK K
                      try simp only [Act.put, List.setIfInBounds_toArray, List.set_cons_zero, List.set_cons_succ]
                      refine wpAnyIn_done (by kernel_rfl) ?_ _
                      gi_wp2
                      exact hfin.out
                    exact AllReadyIn.nil
                  exact AllReadyIn.nil
                exact AllReadyIn.nil
              exact AllReadyIn.nil
            exact AllReadyIn.nil
          refine AllReadyIn.cons rfl (fun K hK => ?_) ?_
          · go_simp
            refine hK _ _ ?_; clear hK K
            try simp only [Act.put, List.setIfInBounds_toArray, List.set_cons_zero, List.set_cons_succ]
            refine wpAnyIn_ready (rs := [0, 3]) (by kernel_rfl) (by simp) ?_
            refine AllReadyIn.cons rfl (fun K hK => ?_) ?_
            · go_simp
              refine hK _ _ ?_; clear hK K
              try simp only [Act.put, List.setIfInBounds_toArray, List.set_cons_zero, List.set_cons_succ]
              refine wpAnyIn_ready (rs := [3]) (by kernel_rfl) (by simp) ?_
              refine AllReadyIn.cons rfl (fun K hK => ?_) ?_
              · gi_wp2_with (refine ⟨trivial, (CallsIn.inRound l (callsIn_wide.2 (HC.out _ hDdr.out))).mono ?_⟩; rintro e w5 ⟨rfl, rfl⟩)
                try simp only [Act.put, List.setIfInBounds_toArray, List.set_cons_zero, List.set_cons_succ]
                refine wpAnyIn_ready (rs := [4]) (by kernel_rfl) (by simp) ?_
                refine AllReadyIn.cons rfl (fun K hK => ?_) ?_
                · go_simp
                  refine hK _ _ ?_; clear hK K
                  try simp only [Act.put, List.setIfInBounds_toArray, List.set_cons_zero, List.set_cons_succ]
                  refine wpAnyIn_ready (rs := [5]) (by kernel_rfl) (by simp) ?_
                  refine AllReadyIn.cons (o := { dst := some 25, op := Op.call { callee := Callee.builtin Builtin.append, args := #[Operand.tmp 20, Operand.tmp 24], argTypes := #[33, 33] }, type := 33, pos := "pmem.go:170", after := #[{ on := 0, ground := Ground.data }, { on := 4, ground := Ground.data }, { on := 3, ground := Ground.chain }], guard := none }) rfl (fun K hK => ?_) ?_
                  · refine Eq.mp (if_pos (by rfl)).symm ?_; refine step_append (v := .slice ad s.length cap) (y := .slice (some ⟨W.heap.size, 0, none⟩) 1 1) _ _ 33 rfl rfl rfl hap ?_
                    refine hK _ _ ?_; clear hK K
                    try simp only [Act.put, List.setIfInBounds_toArray, List.set_cons_zero, List.set_cons_succ]
                    refine wpAnyIn_ready (rs := [6]) (by kernel_rfl) (by simp) ?_
                    refine AllReadyIn.cons rfl (fun K hK => ?_) ?_
                    · go_simp
                      refine hK _ _ ?_; clear hK K
                      try simp only [Act.put, List.setIfInBounds_toArray, List.set_cons_zero, List.set_cons_succ]
                      refine wpAnyIn_done (by kernel_rfl) ?_ _
                      gi_wp2
                      exact hfin.out
                    exact AllReadyIn.nil
                  exact AllReadyIn.nil
                exact AllReadyIn.nil
              exact AllReadyIn.nil
            refine AllReadyIn.cons rfl (fun K hK => ?_) ?_
            · gi_wp2_with (refine ⟨trivial, (CallsIn.inRound l (callsIn_wide.2 (HC.out _ hDdr.out))).mono ?_⟩; rintro e w5 ⟨rfl, rfl⟩)
              try simp only [Act.put, List.setIfInBounds_toArray, List.set_cons_zero, List.set_cons_succ]
              refine wpAnyIn_ready (rs := [0, 4]) (by kernel_rfl) (by simp) ?_
              refine AllReadyIn.cons rfl (fun K hK => ?_) ?_
              · go_simp
                refine hK _ _ ?_; clear hK K
                try simp only [Act.put, List.setIfInBounds_toArray, List.set_cons_zero, List.set_cons_succ]
                refine wpAnyIn_ready (rs := [4]) (by kernel_rfl) (by simp) ?_
                refine AllReadyIn.cons rfl (fun K hK => ?_) ?_
                · go_simp
                  refine hK _ _ ?_; clear hK K
                  try simp only [Act.put, List.setIfInBounds_toArray, List.set_cons_zero, List.set_cons_succ]
                  refine wpAnyIn_ready (rs := [5]) (by kernel_rfl) (by simp) ?_
                  refine AllReadyIn.cons (o := { dst := some 25, op := Op.call { callee := Callee.builtin Builtin.append, args := #[Operand.tmp 20, Operand.tmp 24], argTypes := #[33, 33] }, type := 33, pos := "pmem.go:170", after := #[{ on := 0, ground := Ground.data }, { on := 4, ground := Ground.data }, { on := 3, ground := Ground.chain }], guard := none }) rfl (fun K hK => ?_) ?_
                  · refine Eq.mp (if_pos (by rfl)).symm ?_; refine step_append (v := .slice ad s.length cap) (y := .slice (some ⟨W.heap.size, 0, none⟩) 1 1) _ _ 33 rfl rfl rfl hap ?_
                    refine hK _ _ ?_; clear hK K
                    try simp only [Act.put, List.setIfInBounds_toArray, List.set_cons_zero, List.set_cons_succ]
                    refine wpAnyIn_ready (rs := [6]) (by kernel_rfl) (by simp) ?_
                    refine AllReadyIn.cons rfl (fun K hK => ?_) ?_
                    · go_simp
                      refine hK _ _ ?_; clear hK K
                      try simp only [Act.put, List.setIfInBounds_toArray, List.set_cons_zero, List.set_cons_succ]
                      refine wpAnyIn_done (by kernel_rfl) ?_ _
                      gi_wp2
                      exact hfin.out
                    exact AllReadyIn.nil
                  exact AllReadyIn.nil
                exact AllReadyIn.nil
              refine AllReadyIn.cons rfl (fun K hK => ?_) ?_
              · go_simp
                refine hK _ _ ?_; clear hK K
                try simp only [Act.put, List.setIfInBounds_toArray, List.set_cons_zero, List.set_cons_succ]
                refine wpAnyIn_ready (rs := [0]) (by kernel_rfl) (by simp) ?_
                refine AllReadyIn.cons rfl (fun K hK => ?_) ?_
                · go_simp
                  refine hK _ _ ?_; clear hK K
                  try simp only [Act.put, List.setIfInBounds_toArray, List.set_cons_zero, List.set_cons_succ]
                  refine wpAnyIn_ready (rs := [5]) (by kernel_rfl) (by simp) ?_
                  refine AllReadyIn.cons (o := { dst := some 25, op := Op.call { callee := Callee.builtin Builtin.append, args := #[Operand.tmp 20, Operand.tmp 24], argTypes := #[33, 33] }, type := 33, pos := "pmem.go:170", after := #[{ on := 0, ground := Ground.data }, { on := 4, ground := Ground.data }, { on := 3, ground := Ground.chain }], guard := none }) rfl (fun K hK => ?_) ?_
                  · refine Eq.mp (if_pos (by rfl)).symm ?_; refine step_append (v := .slice ad s.length cap) (y := .slice (some ⟨W.heap.size, 0, none⟩) 1 1) _ _ 33 rfl rfl rfl hap ?_
                    refine hK _ _ ?_; clear hK K
                    try simp only [Act.put, List.setIfInBounds_toArray, List.set_cons_zero, List.set_cons_succ]
                    refine wpAnyIn_ready (rs := [6]) (by kernel_rfl) (by simp) ?_
                    refine AllReadyIn.cons rfl (fun K hK => ?_) ?_
                    · go_simp
                      refine hK _ _ ?_; clear hK K
                      try simp only [Act.put, List.setIfInBounds_toArray, List.set_cons_zero, List.set_cons_succ]
                      refine wpAnyIn_done (by kernel_rfl) ?_ _
                      gi_wp2
                      exact hfin.out
                    exact AllReadyIn.nil
                  exact AllReadyIn.nil
                exact AllReadyIn.nil
              exact AllReadyIn.nil
            exact AllReadyIn.nil
          exact AllReadyIn.nil
        exact AllReadyIn.nil
      case done =>
        rintro D W hD3 hL hK
        have hline := Lib.hid (gather_line (fun s (c : PW) => s ++ [c.seen]) ws j [])
        have hN2 := Lib.hid (show DevIs W d g ws ∧ W.heap[w.heap.size]? = some (.cells #[.func (.func 79) #[] #[]] 144 (0, 0)) ∧ (∃ v, W.heap[w.heap.size + 2]? = some (.cells #[v] 33 (0, 0)) ∧ W.ownsRow w.heap.size 44 1 v (8 * (j + 1)) ((gather (fun s c => s ++ [c.seen]) ws 0 (8 * (j + 1)) []).map wv)) ∧ w.grownBy W none ∧ Marks w.heap.size W W.heap.size ({ target := .collected D, args := #[] } :: ds) from by
          refine ⟨hL.dev, hL.fn, ?_, hL.grown, D, rfl, by omega, (Array.getElem?_eq_some_iff.1 hK).1, hK, hL.marks.up (by omega)⟩
          obtain ⟨v, h1, h2⟩ := hL.box
          refine ⟨v, h1, ?_⟩
          have e1 : (List.range 8).foldl (fun s x => s ++ [(ws.getD (8 * j + x) PW.nought).seen]) (gather (fun s c => s ++ [c.seen]) ws 0 (8 * j) []) = gather (fun s c => s ++ [c.seen]) ws 0 (8 * (j + 1)) [] := hline.out
          rw [e1, gather_len] at h2
          exact h2)
        gi_wp2
        refine ⟨⟨j + 1, _, _, _, _, _, _, _, _, ⟨by omega, hN2.out⟩, rfl⟩, ?_⟩
        simp [intOf]; omega
    · obtain rfl : j = N := by omega
      have hlt' : ¬ (j : Int) < (j : Int) := by omega
      obtain ⟨v, hv, ho⟩ := hB
      have cB : wr.cell? ⟨w.heap.size + 2, 0, none⟩ = some v := by unfold World.cell?; rw [hv]; rfl
      obtain ⟨ad, cap, rfl, _⟩ := row_slice ho
      have hrowv : ws.foldl (fun s (c : PW) => s ++ [c.seen]) [] = ws.map (·.seen) := by
        have : ∀ (ws : List PW) (s : List Nat), ws.foldl (fun s (c : PW) => s ++ [c.seen]) s = s ++ ws.map (·.seen) := by
          intro ws; induction ws with
          | nil => intro s; simp
          | cons c ws ih => intro s; rw [List.foldl_cons, ih]; simp
        simpa using this ws []
      have ho2 := Lib.hid (show wr.ownsRow w.heap.size 44 1 (.slice ad (8 * j) cap) n (ws.map fun c => wv c.seen) from by
        rw [gather_all _ ws [] (8 * j) (by rw [hn]; exact hN.out.symm), hrowv, List.map_map] at ho
        rw [hN.out]; exact ho)
      gi_wp2
      refine leaves_marks ds _ wr hM ?_
      intro w' hw'
      refine ⟨_, results_tmp rfl _ _ _, _, rfl, ?_, hw'.grown (Nat.le_refl _) hG⟩
      obtain ⟨hl1, hr1⟩ := ho2.out
      refine ⟨hl1, ?_⟩
      rcases hr1 with h1 | ⟨g', cap', cur, h1, h2, h3, h4⟩
      · exact .inl h1
      · exact .inr ⟨g', cap', cur, h1, h2, hw'.cells _ _ _ _ h3, h4⟩
end Go.Proofs.YtpdofdloclmbdaaGreat
end
section
/- Package pmem: a new device; a device among a call's own things. -/
-- OPTIONAL
namespace Go.Proofs.YtpdofdloclmbdaaGreat
open Go.RowKit Go.Grommet Go.Shelf

theorem flat_zero (n : Nat) : (madeCells #[Value.int .u64 0, .int .u64 0, .bool false, .bool false, .bool false, .int .u64 0] (n * 6)).toList = flat (List.replicate n PW.nought) := by
  apply List.ext_getElem?
  intro i
  by_cases hi : i < n * 6
  · have hw : (List.replicate n PW.nought)[i / 6]? = some PW.nought := by rw [List.getElem?_replicate, if_pos (by omega)]
    have h1 := pm_flat_get (List.replicate n PW.nought) (i / 6) (i % 6) PW.nought hw (Nat.mod_lt _ (by decide))
    rw [show i / 6 * 6 + i % 6 = i from by omega] at h1
    rw [h1, Array.getElem?_toList]
    have hm : i % 6 = 0 ∨ i % 6 = 1 ∨ i % 6 = 2 ∨ i % 6 = 3 ∨ i % 6 = 4 ∨ i % 6 = 5 := by omega
    simp only [madeCells, Array.getElem?_map, Array.getElem?_range, hi, if_true, Option.map_some]
    rcases hm with e | e | e | e | e | e <;> simp [e, PW.vs, PW.nought]
  · rw [List.getElem?_eq_none (by rw [Array.length_toList, size_madeCells]; omega), List.getElem?_eq_none (by rw [flat_len, List.length_replicate]; omega)]

/-- A device of these words, in blocks of its own. -/
def devP (d : Nat) (ws : List PW) : Pr where
  holds w F := ∃ g, DevIs w d g ws ∧ F d ∧ F g ∧ ∀ i, F i → i < w.heap.size
  turn := fun ⟨g, h, h1, h2, h3⟩ ht hn => ⟨g, ⟨ht.obj h.dev (hn _ h1), ht.obj h.row (hn _ h2), h.ne, h.fits, h.small⟩, h1, h2, fun i hi => Nat.lt_of_lt_of_le (h3 i hi) ht.size⟩
  old := fun ⟨_, _, _, _, h3⟩ => h3

/-- A call that turns a device. -/
theorem dev_does {w0 w : World} {Ps : List Pr} {d k : Nat} {ws : List PW} (h : Grommet.Own w0 w Ps) (hk : Ps[k]? = some (devP d ws)) :
    ∃ g, DevIs w d g ws ∧ w0.heap.size ≤ g ∧ (∀ w' ws', DevIs w' d g ws' → w.grownBy w' (some g) → Grommet.Own w0 w' (Ps.set k (devP d ws'))) ∧
      (∀ m P, Ps[m]? = some P → m ≠ k → ∃ F, P.holds w F ∧ ¬ F g) := by
  obtain ⟨Fs, h1, h2, h3, h4⟩ := h
  have hkl := (List.getElem?_eq_some_iff.1 hk).1
  obtain ⟨g, hD, hd, hg, hF⟩ := h1 k _ hk
  have hOwn : Grommet.Own w0 w Ps := ⟨Fs, h1, h2, h3, h4⟩
  refine ⟨g, hD, h3 k hkl g hg, ?_, ?_⟩
  · intro w' ws' hD' hgr
    have hlt : ∀ i, Fs k i → i < w'.heap.size := fun i hi => Nat.lt_of_lt_of_le (hF i hi) hgr.size
    refine ⟨Fs, ?_, ?_, ?_, grown_turn h4 (Turn.of hgr (fun i e => by cases e; exact hg)) (h3 k hkl)⟩
    · intro j P hP
      by_cases e : j = k
      · subst e
        rw [List.getElem?_set_self hkl] at hP
        cases hP
        exact ⟨g, hD', hd, hg, hlt⟩
      · rw [List.getElem?_set_ne (fun e' => e e'.symm)] at hP
        exact P.turn (h1 j P hP) (Turn.of (F := fun i => i = g) hgr (fun i e => by cases e; rfl)) (fun i hi e' => h2 j k (List.getElem?_eq_some_iff.1 hP).1 hkl e i hi (by rw [e']; exact hg))
    · intro j l hj hl hne; rw [List.length_set] at hj hl; exact h2 j l hj hl hne
    · intro j hj; rw [List.length_set] at hj; exact h3 j hj
  · intro m P hP hmk
    exact ⟨Fs m, h1 m P hP, fun e => h2 m k (List.getElem?_eq_some_iff.1 hP).1 hkl hmk g e hg⟩

set_option maxHeartbeats 1000000 in
theorem NewH (n : Nat) (w0 w : World) (Ps : List Pr) (h : Grommet.Own w0 w Ps) (h8 : 8 ≤ n) (hm : n ≤ 65536) (hd : n % 8 = 0) :
    Calls Tryz.prog 44 #[.int .i64 (n : Int)] w fun e w' => ∃ d, e = .returned (.tuple #[ptr d, .int .i64 0]) ∧ Grommet.Own w0 w' (Ps ++ [devP d (List.replicate n PW.nought)]) := by
  obtain ⟨i0, hi0, hz0, hz1, hz2⟩ := info_parts infoWord
  have hmk : ∀ w', (Instr.makeSlice 129 (.int .i64 (n : Int)) (.int .i64 (n : Int))).run Tryz.prog w' = .ok (.slice (some ⟨w'.heap.size, 0, none⟩) n n) (w'.alloc (.cells (flat (List.replicate n PW.nought)).toArray 128)) := by
    intro w'
    have := run_make (P := Tryz.prog) w' 129 128 i0 _ wordsT hi0 hz0 .i64 .i64 n n (by omega) (Int.le_refl _) (by rw [hz2]; omega) (by omega)
    rw [hz1] at this
    rw [this]
    have hc : (madeCells (Value.cells (.agg #[.int .u64 0, .int .u64 0, .bool false, .bool false, .bool false, .int .u64 0])) ((n : Int).toNat * 6)) = (flat (List.replicate n PW.nought)).toArray := by
      apply Array.toList_inj.1
      rw [← flat_zero n]
      rfl
    rw [hc]
    rfl
  have hrem : Int.tmod (n : Int) 8 = 0 := by rw [Int.tmod_eq_emod_of_nonneg (by omega)]; omega
  have hrem2 : (n : Int) % 8 = 0 := by omega
  have l1 : ¬ (n : Int) < 8 := by omega
  have l2 : ¬ (65536 : Int) < (n : Int) := by omega
  have l3 : (8 : Int) ≤ (n : Int) := by omega
  have l4 : (n : Int) ≤ 65536 := by omega
  have hw0 : IntKind.i64.wrap 0 = 0 := by decide
  have hfin : Hid (Grommet.Own w0 ((w.alloc (.cells (flat (List.replicate n PW.nought)).toArray 128)).alloc (.cells #[.slice (some ⟨w.heap.size, 0, none⟩) n n] 131)) (Ps ++ [devP (w.heap.size + 1) (List.replicate n PW.nought)])) := Lib.hid (by
    have r1 := heap_alloc_new w (.cells (flat (List.replicate n PW.nought)).toArray 128)
    have r2 := heap_alloc_new (w.alloc (.cells (flat (List.replicate n PW.nought)).toArray 128)) (.cells #[.slice (some ⟨w.heap.size, 0, none⟩) n n] 131)
    rw [World.size_alloc] at r2
    refine h.add (F := fun i => i = w.heap.size ∨ i = w.heap.size + 1) ⟨w.heap.size, ⟨by rw [List.length_replicate]; exact r2, ((World.grownBy_alloc _ _ none).block _ (by simp) (by simp)).trans r1, by omega, by rw [List.length_replicate]; exact hm, ?_⟩, .inr rfl, .inl rfl, fun i hi => by simp; omega⟩ (fun i hi => by omega) (grown_trans (World.grownBy_alloc _ _ none) (World.grownBy_alloc _ _ none))
    intro c hc
    rw [List.eq_of_mem_replicate hc]; exact PW.nought_small)
  clear h hi0 hz0 hz1 hz2
  generalize (flat (List.replicate n PW.nought)).toArray = FL at hmk hfin
  generalize List.replicate n PW.nought = WS at hfin ⊢
  unfold ptr
  go_enter Tryz.func44, Tryz.ntmps44
  go_wp2
  exact bodyPost_ret (v := .tuple #[.pointer (some ⟨w.heap.size + 1, 0, none⟩), .int .i64 0]) (by simp [results, Tryz.results44, go_sem]) rfl ⟨_, rfl, hfin.out⟩
end Go.Proofs.YtpdofdloclmbdaaGreat
end
section
/- Package pmem: the power goes. -/
-- OPTIONAL
namespace Go.Proofs.YtpdofdloclmbdaaGreat
open Go.RowKit Go.Grommet Go.Shelf
attribute [local go_sem] Oper.semAt_some

def u8v (p : Nat) : Value := .int .u8 (p : Int)
/-- The picks that are left, in a variable of the call's own. -/
structure PicksR (W : World) (B g : Nat) (ps : List Nat) (ad : Option Addr) (cp : Nat) : Prop where
  box : W.heap[B]? = some (.cells #[.slice ad ps.length cp] 45 (0, 0))
  at_ : At W ad (ps.map u8v)
  nil : ad = none → ps = []
  cap : ps.length ≤ cp
  other : ps ≠ [] → ∀ a, ad = some a → a.block ≠ g ∧ a.block ≠ B ∧ a.block < W.heap.size
  small : ∀ p ∈ ps, p < 256
  few : ps.length ≤ 1000000

structure CrashL (w : World) (d g n b : Nat) (ds : List Deferred) (s : List PW × List Nat) (W : World) : Prop where
  dev : DevIs W d g s.1
  len : s.1.length = n
  picks : ∃ ad cp, PicksR W w.heap.size g s.2 ad cp ∧ (s.2 ≠ [] → ∀ a, ad = some a → a.block < w.heap.size)
  grown : w.grownBy W (some g)
  size : b + 2 ≤ W.heap.size
  marks : Marks w.heap.size W (b + 2) ds
theorem PicksR.keep {W W' : World} {B g : Nat} {ps : List Nat} {ad : Option Addr} {cp : Nat} {row : Option Nat} (h : PicksR W B g ps ad cp) (hg : W.grownBy W' row) (hB : some B ≠ row) (hr : ps ≠ [] → ∀ a, ad = some a → some a.block ≠ row) : PicksR W' B g ps ad cp :=
  ⟨(hg.block _ (Array.getElem?_eq_some_iff.1 h.box).1 hB).trans h.box, h.at_.grown hg (fun a ha hne => hr (fun e => hne (by rw [e]; rfl)) a ha), h.nil, h.cap, fun hne a ha => ⟨(h.other hne a ha).1, (h.other hne a ha).2.1, Nat.lt_of_lt_of_le (h.other hne a ha).2.2 hg.size⟩, h.small, h.few⟩
theorem CrashL.own {w : World} {d g n b : Nat} {ds : List Deferred} (hd : d < w.heap.size) (hg : g < w.heap.size) (hb : w.heap.size < b) : OwnFrom (b + 2) (CrashL w d g n b ds) := by
  intro s W W' row hs hgr hr
  refine ⟨DevIs.ownFrom (B := b + 2) (by omega) (by omega) s.1 W W' row hs.dev hgr hr, hs.len, ?_, grown_new hs.grown hgr (fun j e => by have := (hr j e).1; omega), Nat.le_trans hs.size hgr.size, Marks.ownFrom (U := b + 2) s W W' row hs.marks hgr hr⟩
  obtain ⟨ad, cp, h1, h2⟩ := hs.picks
  exact ⟨ad, cp, h1.keep hgr (by intro e; have := (hr _ e.symm).1; omega) (fun hne a ha e => by have := (hr _ e.symm).1; have := h2 hne a ha; omega), h2⟩
theorem CrashL.round {w W W' : World} {d g n b : Nat} {ds : List Deferred} {s s' : List PW × List Nat} (h : CrashL w d g n b ds s W) (hD' : DevIs W' d g s'.1) (hl' : s'.1.length = s.1.length)
    (hp : ∃ ad cp, PicksR W' w.heap.size g s'.2 ad cp ∧ (s'.2 ≠ [] → ∀ a, ad = some a → a.block < w.heap.size)) (hk : KeepsOthers W W') (hks : Kept (b + 1) b d W W') (hg : w.grownBy W' (some g)) :
    KeepsOthers W W' ∧ Kept (b + 1) b d W W' ∧ CrashL w d g n b ds s' W' :=
  ⟨hk, hks, hD', hl'.trans h.len, hp, hg, Nat.le_trans h.size hk.size, h.marks.keeps hk⟩

theorem loseAt_eq {s : List PW} {qs : List Nat} {k : Nat} {c : PW} (hc : s[k]? = some c) : loseAt (s, qs) k = if c.loose = true then (s.set k (c.lose (qs.headD 0)), qs.tail) else (s, qs) := by
  have : s.getD k PW.nought = c := by rw [List.getD_eq_getElem?_getD, hc]; rfl
  unfold loseAt
  dsimp only
  rw [this]

set_option maxHeartbeats 4000000 in
theorem Crash_ok (w : World) (d g : Nat) (ws : List PW) (h : DevIs w d g ws) (N : Nat) (hN : ws.length = 8 * N) (ad : Option Addr) (cp : Nat) (ps : List Nat) (hat : At w ad (ps.map u8v)) (hnil : ad = none → ps = []) (hcap : ps.length ≤ cp) (hoth : ps ≠ [] → ∀ a, ad = some a → a.block ≠ g ∧ a.block < w.heap.size) (hsm : ∀ p ∈ ps, p < 256) (hpl : ps.length ≤ 1000000) :
    Calls Tryz.prog 21 #[ptr d, .slice ad ps.length cp] w fun e w' => e = .returned (.int .i64 0) ∧ DevIs w' d g (crash ws ps) ∧ w.grownBy w' (some g) := by
  have hf := h.fits
  have hN8 : ws.length / 8 = N := by omega
  have hrow := (Array.getElem?_eq_some_iff.1 h.row).1
  have hdd := (Array.getElem?_eq_some_iff.1 h.dev).1
  have hg0 := World.grownBy_alloc w (.cells #[.slice ad ps.length cp] 45) none
  have h0 := h.grown hg0
  have hbox := heap_alloc_new w (.cells #[.slice ad ps.length cp] 45)
  have HW := Lib.hid (lines_any _ d g ws h0)
  have hP0 : PicksR (w.alloc (.cells #[.slice ad ps.length cp] 45)) w.heap.size g ps ad cp :=
    ⟨hbox, hat.grown hg0 (fun a ha _ => by simp), hnil, hcap, fun hne a ha => ⟨(hoth hne a ha).1, by have := (hoth hne a ha).2; omega, Nat.lt_of_lt_of_le (hoth hne a ha).2 hg0.size⟩, hsm, hpl⟩
  have hAd : ps ≠ [] → ∀ a, ad = some a → a.block < w.heap.size := fun hne a ha => (hoth hne a ha).2
  rw [hN8] at HW
  unfold ptr at HW ⊢
  refine (callsIn_wide (n := 9)).1 ?_
  refine callsIn_of_wp_marks Tryz.func21 rfl trivial ?_ rfl
  simp only [Tryz.ntmps21, List.size_toArray, List.length_cons, List.length_nil, Nat.reduceAdd, Nat.reduceSub, Array.replicate_succ, Array.replicate_zero, List.push_toArray, List.append_toArray, List.nil_append, List.cons_append]
  gi_wp2_with fail
  generalize w.alloc (.cells #[.slice ad ps.length cp] 45) = wa at hg0 h0 hbox HW hP0 ⊢
  have hsa : w.heap.size < wa.heap.size := (Array.getElem?_eq_some_iff.1 hbox).1
  refine ⟨trivial, (callsIn_wide.2 HW.out).mono ?_⟩
  rintro e w1 ⟨rfl, rfl⟩
  gi_wp2_with fail
  refine wpIn_loop (fun a' w' => ∃ (j : Nat) (u5 u13 u14 u15 u16 u17 u45 : Value) (ds : List Deferred), (j ≤ N ∧ DevIs w' d g (loseFrom 0 (8 * j) (ws, ps)).1 ∧ (∃ ad cp, PicksR w' w.heap.size g (loseFrom 0 (8 * j) (ws, ps)).2 ad cp ∧ ((loseFrom 0 (8 * j) (ws, ps)).2 ≠ [] → ∀ a, ad = some a → a.block < w.heap.size)) ∧ w.grownBy w' (some g) ∧ Marks w.heap.size w' w'.heap.size ds) ∧ a' = { tmps := #[.pointer (some ⟨d, 0, none⟩), .slice ad ps.length cp, undef, .pointer (some ⟨w.heap.size, 0, none⟩), .int .i64 0, u5, undef, undef, .pointer (some ⟨d, 0, none⟩), .bool false, .pointer (some ⟨d, 0, none⟩), .int .i64 (N : Int), .int .i64 (j : Int), u13, u14, u15, u16, u17, undef, undef, undef, undef, undef, undef, undef, undef, undef, undef, undef, undef, undef, undef, undef, undef, undef, undef, undef, undef, undef, undef, undef, undef, undef, undef, undef, u45], defers := ds })
    (fun a' _ => N - (intOf (a'.tmps.getD 12 undef)).toNat) ?start ?round
  case start => exact ⟨0, _, _, _, _, _, _, _, [], ⟨Nat.zero_le _, h0, ⟨ad, cp, hP0, hAd⟩, grown_wide hg0, trivial⟩, rfl⟩
  case round =>
    rintro _ wr ⟨j, u5, u13, u14, u15, u16, u17, u45, ds, ⟨hj, hD, hP, hG, hM⟩, rfl⟩
    have j0 : (0 : Int) ≤ (j : Int) := by omega
    have hBs : w.heap.size < wr.heap.size := by obtain ⟨_, _, hp, _⟩ := hP; exact (Array.getElem?_eq_some_iff.1 hp.box).1
    by_cases hlt : j < N
    · have hlt' : (j : Int) < (N : Int) := by omega
      have wj : IntKind.i64.wrap ((j : Int) + 1) = (j : Int) + 1 := IntWalk.i64_in _ ⟨by omega, by omega⟩
      gi_wp2_with fail
      refine ⟨trivial, (callsIn_wide.2 (line_any wr d j)).mono ?_⟩
      rintro e w2 ⟨rfl, hw2⟩
      obtain ⟨b1, b2, hg2, hs2, hk2⟩ := boxes_new wr d j w2 hw2
      have hD2 := hD.grown hg2
      have hM2 := (hM.keeps hk2).up (by omega : wr.heap.size ≤ w2.heap.size)
      have hP2 : ∃ ad cp, PicksR w2 w.heap.size g (loseFrom 0 (8 * j) (ws, ps)).2 ad cp ∧ ((loseFrom 0 (8 * j) (ws, ps)).2 ≠ [] → ∀ a, ad = some a → a.block < w.heap.size) := by
        obtain ⟨ad, cp, hp, ha⟩ := hP
        exact ⟨ad, cp, hp.keep hg2 (by simp) (fun _ _ _ => by simp), ha⟩
      have hlen : (loseFrom 0 (8 * j) (ws, ps)).1.length = ws.length := loseFrom_len _ _ _
      clear hw2 hP
      gi_wp2_with fail
      refine range_line (by decide) (bi := wr.heap.size + 1) (bd := wr.heap.size) (d := d) (g := g) (i := j) (n := ws.length) rfl rfl b1 b2 (by have := hD2.dev; rwa [hlen] at this) (by omega) hf
        (fun s x => loseAt s (8 * j + x)) (loseFrom 0 (8 * j) (ws, ps)) (CrashL w d g ws.length wr.heap.size ds) (by rw [hs2]; exact CrashL.own hdd hrow hBs) ⟨hD2, hlen, hP2, grown_new hG hg2 (fun _ e => by cases e), by omega, by rw [← hs2]; exact hM2⟩
        (fun x => { tmps := #[ptr d, .slice ad ps.length cp, undef, ptr w.heap.size, .int .i64 0, .int .i64 (j : Int), wordAt g (8 * j + x), undef, ptr d, .bool false, ptr d, .int .i64 (N : Int), .int .i64 (j : Int), .bool true, .int .i64 (j : Int), ptr d, .int .i64 (j : Int), .func (.func 103) #[] #[ptr (wr.heap.size + 1), ptr wr.heap.size], wordAt g (8 * j + x), undef, undef, undef, undef, undef, undef, undef, undef, undef, undef, undef, undef, undef, undef, undef, undef, undef, undef, undef, undef, undef, undef, undef, undef, undef, undef, u45], defers := [] }) ?assign ?body ?done
      case assign =>
        intro l x W K hK
        gi_wp2
        exact hK
      case body =>
        rintro l ⟨s, qs⟩ x W hx hL
        have hD := hL.dev
        have hl : s.length = ws.length := hL.len
        obtain ⟨c, hc⟩ : ∃ c, s[8 * j + x]? = some c := ⟨_, List.getElem?_eq_getElem (by omega)⟩
        have hlt := (List.getElem?_eq_some_iff.1 hc).1
        obtain ⟨f0, f1, f2, f3, f4, f5⟩ := hD.get hc
        rw [loseAt_eq hc]
        unfold wordAt ptr
        generalize hk : 8 * j + x = k at hc hlt f0 f1 f2 f3 f4 f5 ⊢
        cases hb : c.loose with
        | false =>
          rw [hb] at f2
          have hself := Lib.hid (show KeepsOthers W W ∧ Kept (wr.heap.size + 1) wr.heap.size d W W ∧ CrashL w d g ws.length wr.heap.size ds (s, qs) W from ⟨KeepsOthers.refl _, ⟨rfl, rfl, rfl⟩, hL⟩)
          rw [if_neg (by simp)]
          clear hL hc hD hN
          gi_wp2
          exact hself.out
        | true =>
          rw [hb] at f2
          rw [if_pos rfl]
          obtain ⟨adq, cq, hpk, hpb⟩ := hL.picks
          have hpk' : PicksR W w.heap.size g qs adq cq := hpk
          clear hpk
          have cB : W.cell? ⟨w.heap.size, 0, none⟩ = some (.slice adq qs.length cq) := by unfold World.cell?; rw [hpk'.box]; rfl
          have zB : W.frozen? ⟨w.heap.size, 0, none⟩ = false := by simp [World.frozen?, hpk'.box]
          cases qs with
          | nil =>
            have hxD := hD
            have hxP : 0 < 256 := by decide
            have hxPk := hpk'
            have hxPb := hpb
            have hxK := KeepsOthers.refl W
            have hxKs : Kept (wr.heap.size + 1) wr.heap.size d W W := ⟨rfl, rfl, rfl⟩
            have hxG := hL.grown
            show Code.wpIn _ _ _ _ (fun e _ W' => e = .normal ∧ KeepsOthers W W' ∧ Kept (wr.heap.size + 1) wr.heap.size d W W' ∧ CrashL w d g ws.length wr.heap.size ds (s.set k (c.lose 0), []) W') _ _
            have hsmc := hxD.of hc
            have HLf := Lib.hid (left_any W d g s hxD k c hc 0 hxP)
            have HSt := Lib.hid (settle_any W d g s hxD k c hc (c.left 0) (PW.left_small hsmc 0))
            have HP := Lib.hid (fun (W' : World) (hD' : DevIs W' d g (s.set k (settled (c.left 0) c.seen))) => show DevIs (W'.setCell ⟨g, k * 6 + 1, none⟩ (.int .u64 ((c.left 0 : Nat) : Int))) d g (s.set k (c.lose 0)) from by
              have := hD'.put (k := k) (c := settled (c.left 0) c.seen) (c' := c.lose 0) (by simp [hlt]) 1 (by decide) (.int .u64 ((c.left 0 : Nat) : Int)) rfl (PW.lose_small hsmc 0)
              rwa [List.set_set] at this)
            have HF := Lib.hid (fun (W' : World) (hD' : DevIs W' d g (s.set k (settled (c.left 0) c.seen))) => show W'.cell? ⟨g, k * 6, none⟩ = some (.int .u64 ((c.left 0 : Nat) : Int)) ∧ W'.frozen? ⟨g, k * 6 + 1, none⟩ = false ∧ W'.cell? ⟨g, k * 6 + 1, none⟩ = some (.int .u64 (c.seen : Int)) from ⟨(hD'.get (k := k) (c := settled (c.left 0) c.seen) (by simp [hlt])).1, hD'.free _, (hD'.get (k := k) (c := settled (c.left 0) c.seen) (by simp [hlt])).2.1⟩)
            have HRo := Lib.hid (fun (W' : World) (hg' : W.grownBy W' (some g)) (hD' : DevIs W' d g (s.set k (c.lose 0))) => show KeepsOthers W W' ∧ Kept (wr.heap.size + 1) wr.heap.size d W W' ∧ CrashL w d g ws.length wr.heap.size ds (s.set k (c.lose 0), []) W' from by
              have hsz := hL.size
              have hkk : KeepsOthers W W' := KeepsOthers.of_grownBy hg' (fun j o e ho => by cases e; rw [hxD.row] at ho; cases ho; rfl)
              have hsx := hxK.size
              exact hL.round hD' (by simp) ⟨_, _, hxPk.keep hg' (by simp; omega) (fun hne a ha e => (hxPk.other hne a ha).1 (by cases e; rfl)), hxPb⟩ (hxK.trans hkk) (hxKs.trans (Kept.of hg' (by omega) (by omega) (Array.getElem?_eq_some_iff.1 hxD.dev).1 (by omega) (by omega) hxD.ne)) (grown_trans hxG hg'))
            unfold wordAt at HLf HSt
            generalize c.left 0 = V at HLf HSt HP HF
            generalize s.set k (settled V c.seen) = s1 at HSt HP HF
            generalize s.set k (c.lose 0) = s' at HP HRo ⊢
            clear hL hc hN hsmc hxD hD
            gi_wp2_with fail
            refine ⟨trivial, (CallsIn.inRound l (callsIn_wide.2 HLf.out)).mono ?_⟩
            rintro e w5 ⟨rfl, rfl⟩
            gi_wp2_with fail
            refine ⟨trivial, (CallsIn.inRound l (callsIn_wide.2 HSt.out)).mono ?_⟩
            rintro e W' ⟨⟨v, rfl⟩, hD', hg'⟩
            obtain ⟨q1, q2, q3⟩ := HF.out W' hD'
            have hfin := Lib.hid (HRo.out _ (grown_trans hg' (grown_setCell W' ⟨g, k * 6 + 1, none⟩ _)) (HP.out W' hD'))
            clear HRo HSt HLf HP HF hD' hg'
            gi_wp2
            exact hfin.out
          | cons p qs =>
            have hp := hpk'.small p (by simp)
            obtain ⟨qb, qo, rfl, cp0⟩ := hpk'.at_ 0 (u8v p) (by simp)
            have cp1 : W.cell? ⟨qb, qo, none⟩ = some (.int .u8 (p : Int)) := cp0
            have hcq := hpk'.cap
            rw [List.length_cons] at cB hcq
            obtain ⟨ad', s1, s2, s3, s4⟩ := slice_from (P := Tryz.prog) 45 5 Tryz.underlying45 Tryz.sizeOf5 (some ⟨qb, qo, none⟩) (qs.length + 1) cq 1 (by omega)
            rw [Nat.add_sub_cancel] at s1
            have hql := hpk'.few
            rw [List.length_cons] at hql
            have hmix : Tryz.prog.follows .mixedOrders = true := by kernel_rfl
            obtain ⟨M, hM1⟩ : ∃ M, qs.length = M := ⟨_, rfl⟩
            rw [hM1] at cB s1 hcq hql
            obtain ⟨L, hL1⟩ : ∃ L, M + 1 = L := ⟨_, rfl⟩
            rw [hL1] at cB s1 hcq hql
            have hq1 : (0 : Int) < (L : Int) := by omega
            have hq2 : (1 : Int) ≤ (L : Int) := by omega
            have S1 : ∀ w, (Instr.slice 45 (.slice (some ⟨qb, qo, none⟩) L cq) (some (.int .i64 1)) none none).run Tryz.prog w = .ok (.slice ad' M (cq - 1)) w := fun w => s1 w
            obtain ⟨Wx, hWx⟩ : ∃ Wx, (W.setCell ⟨w.heap.size, 0, none⟩ (.slice ad' M (cq - 1))).drew = Wx := ⟨_, rfl⟩
            have hgx : W.grownBy Wx (some w.heap.size) := by rw [← hWx]; exact grown_drew (grown_setCell W ⟨w.heap.size, 0, none⟩ _)
            have hBW : w.heap.size < W.heap.size := (Array.getElem?_eq_some_iff.1 hpk'.box).1
            have hxD : DevIs Wx d g s := ⟨(hgx.block _ (Array.getElem?_eq_some_iff.1 hD.dev).1 (by simp; omega)).trans hD.dev, (hgx.block _ (Array.getElem?_eq_some_iff.1 hD.row).1 (by simp; omega)).trans hD.row, hD.ne, hD.fits, hD.small⟩
            have hxP : p < 256 := hp
            have hxb : ∀ a, ad' = some a → a.block = qb := fun a ha => by obtain ⟨y, hy, e⟩ := s3 a ha; cases hy; exact e
            have hqo := hpk'.other (by simp) ⟨qb, qo, none⟩ rfl
            have hxPk : PicksR Wx w.heap.size g qs ad' (cq - 1) := by
              refine ⟨?_, ?_, fun e => (by have := s4 e; cases this), by omega, fun _ a ha => ?_, fun x hx => hpk'.small x (by simp [hx]), by omega⟩
              · rw [← hWx, hM1]
                show (W.setCell ⟨w.heap.size, 0, none⟩ (.slice ad' M (cq - 1))).heap[w.heap.size]? = _
                have := heap_setCell_at (o := 0) hpk'.box (.slice ad' M (cq - 1))
                simpa using this
              · have := s2 W _ hpk'.at_ (by first | (simp; done) | (simp; omega)) (by omega)
                exact At.grown this hgx (fun a ha _ => by rw [hxb a ha]; simp; exact hqo.2.1)
              · rw [hxb a ha]; exact ⟨hqo.1, hqo.2.1, Nat.lt_of_lt_of_le hqo.2.2 hgx.size⟩
            have hxPb : qs ≠ [] → ∀ a, ad' = some a → a.block < w.heap.size := fun _ a ha => by rw [hxb a ha]; exact hpb (by simp) _ rfl
            have hxK : KeepsOthers W Wx := KeepsOthers.of_grownBy hgx (fun j o e ho => by cases e; rw [hpk'.box] at ho; cases ho; rfl)
            have hszL := hL.size
            have hxKs : Kept (wr.heap.size + 1) wr.heap.size d W Wx := Kept.of hgx (by omega) (by omega) (Array.getElem?_eq_some_iff.1 hD.dev).1 (by omega) (by omega) (by omega)
            have hxG : w.grownBy Wx (some g) := grown_new hL.grown hgx (fun j e => by cases e; exact Nat.le_refl _)
            show Code.wpIn _ _ _ _ (fun e _ W' => e = .normal ∧ KeepsOthers W W' ∧ Kept (wr.heap.size + 1) wr.heap.size d W W' ∧ CrashL w d g ws.length wr.heap.size ds (s.set k (c.lose p), qs) W') _ _
            have hsmc := hxD.of hc
            have HLf := Lib.hid (left_any Wx d g s hxD k c hc p hxP)
            have HSt := Lib.hid (settle_any Wx d g s hxD k c hc (c.left p) (PW.left_small hsmc p))
            have HP := Lib.hid (fun (W' : World) (hD' : DevIs W' d g (s.set k (settled (c.left p) c.seen))) => show DevIs (W'.setCell ⟨g, k * 6 + 1, none⟩ (.int .u64 ((c.left p : Nat) : Int))) d g (s.set k (c.lose p)) from by
              have := hD'.put (k := k) (c := settled (c.left p) c.seen) (c' := c.lose p) (by simp [hlt]) 1 (by decide) (.int .u64 ((c.left p : Nat) : Int)) rfl (PW.lose_small hsmc p)
              rwa [List.set_set] at this)
            have HF := Lib.hid (fun (W' : World) (hD' : DevIs W' d g (s.set k (settled (c.left p) c.seen))) => show W'.cell? ⟨g, k * 6, none⟩ = some (.int .u64 ((c.left p : Nat) : Int)) ∧ W'.frozen? ⟨g, k * 6 + 1, none⟩ = false ∧ W'.cell? ⟨g, k * 6 + 1, none⟩ = some (.int .u64 (c.seen : Int)) from ⟨(hD'.get (k := k) (c := settled (c.left p) c.seen) (by simp [hlt])).1, hD'.free _, (hD'.get (k := k) (c := settled (c.left p) c.seen) (by simp [hlt])).2.1⟩)
            have HRo := Lib.hid (fun (W' : World) (hg' : Wx.grownBy W' (some g)) (hD' : DevIs W' d g (s.set k (c.lose p))) => show KeepsOthers W W' ∧ Kept (wr.heap.size + 1) wr.heap.size d W W' ∧ CrashL w d g ws.length wr.heap.size ds (s.set k (c.lose p), qs) W' from by
              have hsz := hL.size
              have hkk : KeepsOthers Wx W' := KeepsOthers.of_grownBy hg' (fun j o e ho => by cases e; rw [hxD.row] at ho; cases ho; rfl)
              have hsx := hxK.size
              exact hL.round hD' (by simp) ⟨_, _, hxPk.keep hg' (by simp; omega) (fun hne a ha e => (hxPk.other hne a ha).1 (by cases e; rfl)), hxPb⟩ (hxK.trans hkk) (hxKs.trans (Kept.of hg' (by omega) (by omega) (Array.getElem?_eq_some_iff.1 hxD.dev).1 (by omega) (by omega) hxD.ne)) (grown_trans hxG hg'))
            unfold wordAt at HLf HSt
            generalize c.left p = V at HLf HSt HP HF
            generalize s.set k (settled V c.seen) = s1 at HSt HP HF
            generalize s.set k (c.lose p) = s' at HP HRo ⊢
            clear hL hc hN hsmc hxD hD
            clear hxPk hxPb hxK hxKs hxG hgx hqo hxb s2 s3 s4 hBW hszL hpk' cp0
            gi_wp2_with fail
            gi_region_with_o (fail)
            all_goals (try rw [hWx])
            all_goals clear hWx cB zB cp1 S1
            all_goals gi_wp2_with fail
            all_goals (refine ⟨trivial, (CallsIn.inRound l (callsIn_wide.2 HLf.out)).mono ?_⟩; rintro e w5 ⟨rfl, rfl⟩)
            all_goals gi_wp2_with fail
            all_goals (refine ⟨trivial, (CallsIn.inRound l (callsIn_wide.2 HSt.out)).mono ?_⟩; rintro e W' ⟨⟨v, rfl⟩, hD', hg'⟩)
            all_goals (obtain ⟨q1, q2, q3⟩ := HF.out W' hD')
            all_goals (have hfin := Lib.hid (HRo.out _ (grown_trans hg' (grown_setCell W' ⟨g, k * 6 + 1, none⟩ _)) (HP.out W' hD')))
            all_goals (clear HRo HSt HLf HP HF hD' hg')
            all_goals gi_wp2
            all_goals exact hfin.out
      case done =>
        rintro D W hD3 hL hK
        have hline := Lib.hid (loseFrom_line j (ws, ps))
        have hN2 := Lib.hid (show DevIs W d g (loseFrom 0 (8 * (j + 1)) (ws, ps)).1 ∧ (∃ ad cp, PicksR W w.heap.size g (loseFrom 0 (8 * (j + 1)) (ws, ps)).2 ad cp ∧ ((loseFrom 0 (8 * (j + 1)) (ws, ps)).2 ≠ [] → ∀ a, ad = some a → a.block < w.heap.size)) ∧ w.grownBy W (some g) ∧ Marks w.heap.size W W.heap.size ({ target := .collected D, args := #[] } :: ds) from
          ⟨by rw [← hline.out]; exact hL.dev, by rw [← hline.out]; exact hL.picks, hL.grown, D, rfl, by omega, (Array.getElem?_eq_some_iff.1 hK).1, hK, hL.marks.up (by omega)⟩)
        gi_wp2
        refine ⟨⟨j + 1, _, _, _, _, _, _, _, _, ⟨by omega, hN2.out⟩, rfl⟩, ?_⟩
        simp [intOf]; omega
    · obtain rfl : j = N := by omega
      have hlt' : ¬ (j : Int) < (j : Int) := by omega
      have hall := loseFrom_all ws ps (8 * j) hN.symm
      gi_wp2
      refine leaves_marks ds _ wr hM ?_
      intro w' hw'
      refine ⟨_, results_tmp rfl _ _ _, rfl, ?_, hw'.grown (Nat.le_refl _) hG⟩
      rw [← hall]
      exact ⟨hw'.cells _ _ _ _ hD.dev, hw'.cells _ _ _ _ hD.row, hD.ne, hD.fits, hD.small⟩
end Go.Proofs.YtpdofdloclmbdaaGreat
end
section
/- Package pmem: its calls over a device among a call's own things. -/
-- OPTIONAL
namespace Go.Proofs.YtpdofdloclmbdaaGreat
open Go.RowKit Go.Grommet Go.Shelf

theorem StoreH (k d : Nat) (ws : List PW) (w0 w : World) (Ps : List Pr) (h : Grommet.Own w0 w Ps) (hk : Ps[k]? = some (devP d ws)) (a : Nat) (c : PW) (hc : ws[a]? = some c) (v : Nat) (hv : v < 18446744073709551616) :
    Calls Tryz.prog 17 #[ptr d, .int .i64 (a : Int), .int .u64 (v : Int)] w fun e w' => e = .returned (.int .i64 0) ∧ Grommet.Own w0 w' (Ps.set k (devP d (ws.modify a (·.store v)))) := by
  obtain ⟨g, hD, _, hO, _⟩ := dev_does h hk
  refine (Store_ok w d g ws hD a c hc v hv).mono ?_
  rintro e w' ⟨rfl, hD', hg⟩
  refine ⟨rfl, hO w' _ ?_ hg⟩
  rw [modify_set hc]; exact hD'
theorem FlushH (k d : Nat) (ws : List PW) (w0 w : World) (Ps : List Pr) (h : Grommet.Own w0 w Ps) (hk : Ps[k]? = some (devP d ws)) (i : Nat) (hi : i < ws.length / 8) :
    Calls Tryz.prog 116 #[ptr d, .int .i64 (i : Int)] w fun e w' => e = .returned (.int .i64 0) ∧ Grommet.Own w0 w' (Ps.set k (devP d (turnFrom PW.flush (8 * i) 8 ws))) := by
  obtain ⟨g, hD, _, hO, _⟩ := dev_does h hk
  refine (Flush_ok w d g ws hD i hi).mono ?_
  rintro e w' ⟨rfl, hD', hg⟩
  exact ⟨rfl, hO w' _ hD' hg⟩
theorem EvictH (k d : Nat) (ws : List PW) (w0 w : World) (Ps : List Pr) (h : Grommet.Own w0 w Ps) (hk : Ps[k]? = some (devP d ws)) (i : Nat) (hi : i < ws.length / 8) :
    Calls Tryz.prog 19 #[ptr d, .int .i64 (i : Int)] w fun e w' => e = .returned (.int .i64 0) ∧ Grommet.Own w0 w' (Ps.set k (devP d (turnFrom PW.evict (8 * i) 8 ws))) := by
  obtain ⟨g, hD, _, hO, _⟩ := dev_does h hk
  refine (Evict_ok w d g ws hD i hi).mono ?_
  rintro e w' ⟨rfl, hD', hg⟩
  exact ⟨rfl, hO w' _ hD' hg⟩
theorem FenceH (k d : Nat) (ws : List PW) (w0 w : World) (Ps : List Pr) (h : Grommet.Own w0 w Ps) (hk : Ps[k]? = some (devP d ws)) (N : Nat) (hN : ws.length = 8 * N) :
    Calls Tryz.prog 117 #[ptr d] w fun e w' => e = .returned (.int .i64 0) ∧ Grommet.Own w0 w' (Ps.set k (devP d (ws.map PW.fence))) := by
  obtain ⟨g, hD, _, hO, _⟩ := dev_does h hk
  refine (Fence_ok w d g ws hD N hN).mono ?_
  rintro e w' ⟨rfl, hD', hg⟩
  exact ⟨rfl, hO w' _ hD' hg⟩
theorem LooseH (k d : Nat) (ws : List PW) (w0 w : World) (Ps : List Pr) (h : Grommet.Own w0 w Ps) (hk : Ps[k]? = some (devP d ws)) (N : Nat) (hN : ws.length = 8 * N) :
    Calls Tryz.prog 41 #[ptr d] w fun e w' => e = .returned (.int .i64 (looseOf ws : Int)) ∧ Grommet.Own w0 w' Ps := by
  obtain ⟨g, hD, _, _, _⟩ := dev_does h hk
  refine (Loose_any w d g ws hD N hN).mono ?_
  rintro e w' ⟨rfl, hg⟩
  exact ⟨rfl, h.quiet hg⟩
/-- A loss of power, by picks that lay ahead of all. -/
theorem CrashOldH (k d : Nat) (ws : List PW) (w0 w : World) (Ps : List Pr) (h : Grommet.Own w0 w Ps) (hk : Ps[k]? = some (devP d ws)) (N : Nat) (hN : ws.length = 8 * N)
    (ad : Option Addr) (cp : Nat) (ps : List Nat) (hat : At w ad (ps.map u8v)) (hnil : ad = none → ps = []) (hcap : ps.length ≤ cp) (hoth : ps ≠ [] → ∀ a, ad = some a → a.block < w0.heap.size) (hsm : ∀ p ∈ ps, p < 256) (hpl : ps.length ≤ 1000000) :
    Calls Tryz.prog 21 #[ptr d, .slice ad ps.length cp] w fun e w' => e = .returned (.int .i64 0) ∧ Grommet.Own w0 w' (Ps.set k (devP d (crash ws ps))) := by
  obtain ⟨g, hD, hgw, hO, _⟩ := dev_does h hk
  have hsz := h.grown.size
  refine (Crash_ok w d g ws hD N hN ad cp ps hat hnil hcap (fun hne a ha => ⟨by have := hoth hne a ha; omega, by have := hoth hne a ha; omega⟩) hsm hpl).mono ?_
  rintro e w' ⟨rfl, hD', hg⟩
  exact ⟨rfl, hO w' _ hD' hg⟩
set_option maxHeartbeats 1000000 in
theorem SureH (k d : Nat) (ws : List PW) (w0 w : World) (Ps : List Pr) (h : Grommet.Own w0 w Ps) (hk : Ps[k]? = some (devP d ws)) (N : Nat) (hN : ws.length = 8 * N) :
    Calls Tryz.prog 29 #[ptr d] w fun e w' => ∃ ad cap, e = .returned (.slice ad ws.length cap) ∧ Grommet.Own w0 w' (Ps ++ [rowP 44 1 (.slice ad ws.length cap) ws.length ((ws.map (·.sure)).map wv)]) := by
  obtain ⟨g, hD, _, _, _⟩ := dev_does h hk
  have HA := Lib.hid (allSure_any w d g ws hD N hN)
  have hq := Lib.hid (fun (w' : World) (v : Value) (hr : w'.ownsRow w.heap.size 44 1 v ws.length (ws.map fun c => wv c.sure)) (hg : w.grownBy w' none) => h.addRow hr hg)
  have hmap : (ws.map fun c => wv c.sure) = (ws.map (·.sure)).map wv := by rw [List.map_map]; rfl
  rw [← hmap]
  unfold ptr at HA ⊢
  clear h hk hD hN
  generalize (ws.map fun c => wv c.sure) = xs at HA hq ⊢
  generalize ws.length = n at HA hq ⊢
  go_enter Tryz.func29, Tryz.ntmps29
  go_wp2_with fail
  refine HA.out.mono ?_
  rintro e w1 ⟨v, rfl, hr, hg⟩
  have hO := Lib.hid (hq.out w1 v hr hg)
  obtain ⟨ad, cap, rfl, _⟩ := row_slice hr
  clear hr hg hq HA
  go_wp2
  go_ret
  exact ⟨ad, cap, rfl, hO.out⟩
set_option maxHeartbeats 1000000 in
theorem SeenH (k d : Nat) (ws : List PW) (w0 w : World) (Ps : List Pr) (h : Grommet.Own w0 w Ps) (hk : Ps[k]? = some (devP d ws)) (N : Nat) (hN : ws.length = 8 * N) :
    Calls Tryz.prog 28 #[ptr d] w fun e w' => ∃ ad cap, e = .returned (.slice ad ws.length cap) ∧ Grommet.Own w0 w' (Ps ++ [rowP 44 1 (.slice ad ws.length cap) ws.length ((ws.map (·.seen)).map wv)]) := by
  obtain ⟨g, hD, _, _, _⟩ := dev_does h hk
  have HA := Lib.hid (allSeen_any w d g ws hD N hN)
  have hq := Lib.hid (fun (w' : World) (v : Value) (hr : w'.ownsRow w.heap.size 44 1 v ws.length (ws.map fun c => wv c.seen)) (hg : w.grownBy w' none) => h.addRow hr hg)
  have hmap : (ws.map fun c => wv c.seen) = (ws.map (·.seen)).map wv := by rw [List.map_map]; rfl
  rw [← hmap]
  unfold ptr at HA ⊢
  clear h hk hD hN
  generalize (ws.map fun c => wv c.seen) = xs at HA hq ⊢
  generalize ws.length = n at HA hq ⊢
  go_enter Tryz.func28, Tryz.ntmps28
  go_wp2_with fail
  refine HA.out.mono ?_
  rintro e w1 ⟨v, rfl, hr, hg⟩
  have hO := Lib.hid (hq.out w1 v hr hg)
  obtain ⟨ad, cap, rfl, _⟩ := row_slice hr
  clear hr hg hq HA
  go_wp2
  go_ret
  exact ⟨ad, cap, rfl, hO.out⟩
end Go.Proofs.YtpdofdloclmbdaaGreat
end
section
/- The document's device among a call's own things; Load, Store, line. -/
-- OPTIONAL
-- OPTIONAL
namespace Go.Proofs.YtpdofdloclmbdaaGreat
open Go.RowKit Go.Grommet Go.Shelf

def rowR (g n : Nat) (rs : List RW) : Pr := rowP 133 6 (.slice (some ⟨g, 0, none⟩) n n) n (pm_flatR rs)
def boxR (d g n : Nat) : Pr := boxP d 102 #[.slice (some ⟨g, 0, none⟩) n n]
structure RD (Ps : List Pr) (kd kr d g n : Nat) (rs : List RW) : Prop where
  box : Ps[kd]? = some (boxR d g n)
  row : Ps[kr]? = some (rowR g n rs)
  ne : kd ≠ kr
  len : rs.length = n
  small : ∀ c ∈ rs, c.Small
  few : n ≤ 65536
theorem RD.set {Ps : List Pr} {kd kr d g n : Nat} {rs rs' : List RW} (h : RD Ps kd kr d g n rs) (hl : rs'.length = n) (hs : ∀ c ∈ rs', c.Small) : RD (Ps.set kr (rowR g n rs')) kd kr d g n rs' :=
  ⟨by rw [List.getElem?_set_ne (fun e => h.ne e.symm)]; exact h.box, List.getElem?_set_self (List.getElem?_eq_some_iff.1 h.row).1, h.ne, hl, hs, h.few⟩
theorem RD.dev {Ps : List Pr} {kd kr d g n : Nat} {rs : List RW} (h : RD Ps kd kr d g n rs) {w0 w : World} (hO : Grommet.Own w0 w Ps) : w.cell? ⟨d, 0, none⟩ = some (.slice (some ⟨g, 0, none⟩) n n) := by
  have := hO.box kd h.box
  simp [World.cell?, this]
theorem RD.cell {Ps : List Pr} {kd kr d g n : Nat} {rs : List RW} (h : RD Ps kd kr d g n rs) {w0 w : World} (hO : Grommet.Own w0 w Ps) {k : Nat} {r : RW} (hr : rs[k]? = some r) (j : Nat) (v : Value) (hv : r.vs[j]? = some v) : w.cell? ⟨g, k * 6 + j, none⟩ = some v ∧ w.frozen? ⟨g, k * 6 + j, none⟩ = false := by
  have hj : j < 6 := (List.getElem?_eq_some_iff.1 hv).1
  obtain ⟨b, he, h1, h2, _⟩ := Own.cell hO kr h.row (k * 6 + j) v (by rw [flatR_get rs k j r hr hj]; exact hv)
  cases he
  exact ⟨h1, h2⟩
theorem RD.get {Ps : List Pr} {kd kr d g n : Nat} {rs : List RW} (h : RD Ps kd kr d g n rs) {w0 w : World} (hO : Grommet.Own w0 w Ps) {k : Nat} {r : RW} (hr : rs[k]? = some r) :
    w.cell? ⟨g, k * 6, none⟩ = some (.int .u64 (r.sure : Int)) ∧ w.cell? ⟨g, k * 6 + 1, none⟩ = some (.int .u64 (r.seen : Int)) ∧ w.cell? ⟨g, k * 6 + 2, none⟩ = some (.bool r.loose) ∧ w.cell? ⟨g, k * 6 + 3, none⟩ = some (.bool r.flushed) ∧ w.cell? ⟨g, k * 6 + 4, none⟩ = some (.int .u64 (r.value : Int)) ∧ w.cell? ⟨g, k * 6 + 5, none⟩ = some (.bool r.again) :=
  ⟨(h.cell hO hr 0 _ rfl).1, (h.cell hO hr 1 _ rfl).1, (h.cell hO hr 2 _ rfl).1, (h.cell hO hr 3 _ rfl).1, (h.cell hO hr 4 _ rfl).1, (h.cell hO hr 5 _ rfl).1⟩
theorem RD.free {Ps : List Pr} {kd kr d g n : Nat} {rs : List RW} (h : RD Ps kd kr d g n rs) {w0 w : World} (hO : Grommet.Own w0 w Ps) {k : Nat} {r : RW} (hr : rs[k]? = some r) :
    w.frozen? ⟨g, k * 6, none⟩ = false ∧ w.frozen? ⟨g, k * 6 + 1, none⟩ = false ∧ w.frozen? ⟨g, k * 6 + 2, none⟩ = false ∧ w.frozen? ⟨g, k * 6 + 3, none⟩ = false ∧ w.frozen? ⟨g, k * 6 + 4, none⟩ = false ∧ w.frozen? ⟨g, k * 6 + 5, none⟩ = false :=
  ⟨(h.cell hO hr 0 _ rfl).2, (h.cell hO hr 1 _ rfl).2, (h.cell hO hr 2 _ rfl).2, (h.cell hO hr 3 _ rfl).2, (h.cell hO hr 4 _ rfl).2, (h.cell hO hr 5 _ rfl).2⟩
theorem RD.apart {Ps : List Pr} {kd kr d g n : Nat} {rs : List RW} (h : RD Ps kd kr d g n rs) {w0 w : World} (hO : Grommet.Own w0 w Ps) (hn : 0 < n) : d ≠ g := by
  intro e
  subst e
  have hb := hO.box kd h.box
  obtain ⟨r, hr⟩ : ∃ r, rs[0]? = some r := ⟨rs[0]'(by rw [h.len]; exact hn), List.getElem?_eq_getElem _⟩
  have := (h.cell hO hr 1 _ rfl).1
  simp [World.cell?, hb] at this
/-- A store into one cell of a word. -/
theorem rput {w0 w : World} {Ps : List Pr} {kr g n : Nat} {rs : List RW} (h : Grommet.Own w0 w Ps) (hk : Ps[kr]? = some (rowR g n rs)) {k : Nat} {c c' : RW} (hc : rs[k]? = some c) (j : Nat) (hj : j < 6) (v : Value) (hv : c.vs.set j v = c'.vs) :
    Grommet.Own w0 (w.setCell ⟨g, k * 6 + j, none⟩ v) (Ps.set kr (rowR g n (rs.set k c'))) := by
  have := Own.store h kr hk (k * 6 + j) v
  rw [flatR_set rs k j c c' v hc hj hv] at this
  exact this
theorem rput2 {w0 w : World} {Ps : List Pr} {kr g n : Nat} {rs : List RW} {k : Nat} {c : RW} (h : Grommet.Own w0 w (Ps.set kr (rowR g n (rs.set k c)))) (hkl : kr < Ps.length) (hl : k < rs.length) {c' : RW} (j : Nat) (hj : j < 6) (v : Value) (hv : c.vs.set j v = c'.vs) :
    Grommet.Own w0 (w.setCell ⟨g, k * 6 + j, none⟩ v) (Ps.set kr (rowR g n (rs.set k c'))) := by
  have := rput h (List.getElem?_set_self hkl) (k := k) (c := c) (c' := c') (by simp [hl]) j hj v hv
  rwa [List.set_set, List.set_set] at this
theorem rputAll {w0 w : World} {Ps : List Pr} {kr g n : Nat} {rs : List RW} (h : Grommet.Own w0 w Ps) (hk : Ps[kr]? = some (rowR g n rs)) {k : Nat} {c : RW} (hc : rs[k]? = some c) (c' : RW) :
    Grommet.Own w0 ((((((w.setCell ⟨g, k * 6, none⟩ (.int .u64 (c'.sure : Int))).setCell ⟨g, k * 6 + 1, none⟩ (.int .u64 (c'.seen : Int))).setCell ⟨g, k * 6 + 2, none⟩ (.bool c'.loose)).setCell ⟨g, k * 6 + 3, none⟩ (.bool c'.flushed)).setCell ⟨g, k * 6 + 4, none⟩ (.int .u64 (c'.value : Int))).setCell ⟨g, k * 6 + 5, none⟩ (.bool c'.again)) (Ps.set kr (rowR g n (rs.set k c'))) := by
  have hkl := (List.getElem?_eq_some_iff.1 hk).1
  have hl := (List.getElem?_eq_some_iff.1 hc).1
  have h0 := rput h hk (c' := { c with sure := c'.sure }) hc 0 (by decide) (.int .u64 (c'.sure : Int)) rfl
  have h1 := rput2 h0 hkl hl (c' := { c with sure := c'.sure, seen := c'.seen }) 1 (by decide) (.int .u64 (c'.seen : Int)) rfl
  have h2 := rput2 h1 hkl hl (c' := { c with sure := c'.sure, seen := c'.seen, loose := c'.loose }) 2 (by decide) (.bool c'.loose) rfl
  have h3 := rput2 h2 hkl hl (c' := { c with sure := c'.sure, seen := c'.seen, loose := c'.loose, flushed := c'.flushed }) 3 (by decide) (.bool c'.flushed) rfl
  have h4 := rput2 h3 hkl hl (c' := { c with sure := c'.sure, seen := c'.seen, loose := c'.loose, flushed := c'.flushed, value := c'.value }) 4 (by decide) (.int .u64 (c'.value : Int)) rfl
  exact rput2 h4 hkl hl (c' := c') 5 (by decide) (.bool c'.again) rfl

set_option maxHeartbeats 1000000 in
theorem RStore_no (kd kr d g n : Nat) (rs : List RW) (a v : Int) (ha : a < 0 ∨ (n : Int) ≤ a) (w0 w : World) (Ps : List Pr) (h : Grommet.Own w0 w Ps) (hD : RD Ps kd kr d g n rs) :
    Calls Tryz.prog 18 #[ptr d, .int .i64 a, .int .u64 v] w fun e w' => e = .returned (.int .i64 8) ∧ w' = w := by
  have c0 := hD.dev h
  unfold ptr
  clear h hD
  by_cases h1 : a < 0
  · clear ha
    go_enter Tryz.func18, Tryz.ntmps18
    go_wp2
    go_ret
    exact ⟨rfl, rfl⟩
  · have h2 : (n : Int) ≤ a := by omega
    clear ha
    go_enter Tryz.func18, Tryz.ntmps18
    go_wp2
    go_ret
    exact ⟨rfl, rfl⟩
set_option maxHeartbeats 1000000 in
theorem RStore_ok (kd kr d g n : Nat) (rs : List RW) (k : Nat) (r : RW) (hr : rs[k]? = some r) (v : Nat) (w0 w : World) (Ps : List Pr) (h : Grommet.Own w0 w Ps) (hD : RD Ps kd kr d g n rs) :
    Calls Tryz.prog 18 #[ptr d, .int .i64 (k : Int), .int .u64 (v : Int)] w fun e w' => e = .returned (.int .i64 0) ∧ Grommet.Own w0 w' (Ps.set kr (rowR g n (rs.modify k (RW.store v)))) := by
  have hkn : k < n := by rw [← hD.len]; exact (List.getElem?_eq_some_iff.1 hr).1
  have hne := hD.apart h (by omega)
  have hne' : g ≠ d := fun e => hne e.symm
  have c0 := hD.dev h
  obtain ⟨f0, f1, f2, f3, f4, f5⟩ := hD.get h hr
  obtain ⟨z0, z1, z2, z3, z4, z5⟩ := hD.free h hr
  have k0 : (0 : Int) ≤ (k : Int) := by omega
  have k1 : (k : Int) < (n : Int) := by omega
  have k2 : ¬ (n : Int) ≤ (k : Int) := by omega
  have k3 : ¬ (k : Int) < 0 := by omega
  have hkl := (List.getElem?_eq_some_iff.1 hD.row).1
  have hl := (List.getElem?_eq_some_iff.1 hr).1
  have hfin : Hid (Grommet.Own w0 (((w.setCell ⟨g, k * 6 + 1, none⟩ (.int .u64 (v : Int))).setCell ⟨g, k * 6 + 2, none⟩ (.bool true)).setCell ⟨g, k * 6 + 5, none⟩ (.bool true)) (Ps.set kr (rowR g n (rs.modify k (RW.store v))))) := Lib.hid (by
    rw [rmodify_set hr]
    have h1 := rput h hD.row (c' := { r with seen := v }) hr 1 (by decide) (.int .u64 (v : Int)) rfl
    have h2 := rput2 h1 hkl hl (c' := { r with seen := v, loose := true }) 2 (by decide) (.bool true) rfl
    exact rput2 h2 hkl hl (c' := RW.store v r) 5 (by decide) (.bool true) rfl)
  unfold ptr
  clear h hD hr hkl hl
  go_enter Tryz.func18, Tryz.ntmps18
  go_wp2
  go_ret
  exact ⟨rfl, hfin.out⟩
set_option maxHeartbeats 1000000 in
theorem Rline_any (kd kr d g n : Nat) (rs : List RW) (i : Int) (b : Bool) (hb : decide (0 ≤ i ∧ i < ((n / 8 : Nat) : Int)) = b) (w0 w : World) (Ps : List Pr) (h : Grommet.Own w0 w Ps) (hD : RD Ps kd kr d g n rs) :
    Calls Tryz.prog 74 #[ptr d, .int .i64 i] w fun e w' => e = .returned (.bool b) ∧ w' = w := by
  have c0 := hD.dev h
  have hf := hD.few
  obtain ⟨q, hq⟩ : ∃ q, n / 8 = q := ⟨_, rfl⟩
  rw [hq] at hb
  have e1 : (n : Int) / 8 = (q : Int) := by omega
  have e2 : Int.tdiv (n : Int) 8 = (q : Int) := by rw [Int.tdiv_eq_ediv_of_nonneg (by omega)]; exact e1
  have wq : IntKind.i64.wrap (q : Int) = (q : Int) := IntWalk.i64_in _ ⟨by omega, by omega⟩
  unfold ptr
  clear h hD hq hf
  by_cases h1 : 0 ≤ i
  · by_cases h2 : i < (q : Int)
    · obtain rfl : true = b := by rw [← hb]; simp [h1, h2]
      clear hb
      go_enter Tryz.func74, Tryz.ntmps74
      go_wp2
      go_ret
      exact ⟨rfl, rfl⟩
    · obtain rfl : false = b := by rw [← hb]; simp [h2]
      clear hb
      go_enter Tryz.func74, Tryz.ntmps74
      go_wp2
      go_ret
      exact ⟨rfl, rfl⟩
  · obtain rfl : false = b := by rw [← hb]; simp [h1]
    clear hb
    go_enter Tryz.func74, Tryz.ntmps74
    go_wp2
    go_ret
    exact ⟨rfl, rfl⟩
end Go.Proofs.YtpdofdloclmbdaaGreat
end
