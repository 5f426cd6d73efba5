/- Package pmem: a new device; one word loaded, stored, settled. -/
import Derived.Test.YtimihchklecabaaPmA
import Derived.Laws.MakeOwn
namespace Go.Proofs.Ytimihchklecabaa
open Go.RowKit Go.Grommet

theorem wordsT : Try.prog.underlying 59 = some (.slice 69) := Try.underlying59
theorem infoWord : (Try.prog.info? 69).map (fun i => (i.zero, i.size, i.bytes)) = some (some (.agg #[.int .u64 0, .int .u64 0, .bool false, .bool false, .bool false, .int .u64 0]), 6, 32) := by kernel_rfl

/-- A word of a device, where it stands. -/
theorem DevIs.get {w : World} {d g : Nat} {ws : List PW} (h : DevIs w d g ws) {k : Nat} {c : PW} (hc : ws[k]? = some c) :
    w.cell? ⟨g, k * 6, none⟩ = some (.int .u64 (c.sure : Int)) ∧ w.cell? ⟨g, k * 6 + 1, none⟩ = some (.int .u64 (c.seen : Int)) ∧ w.cell? ⟨g, k * 6 + 2, none⟩ = some (.bool c.loose) ∧ w.cell? ⟨g, k * 6 + 3, none⟩ = some (.bool c.flushed) ∧ w.cell? ⟨g, k * 6 + 4, none⟩ = some (.bool c.again) ∧ w.cell? ⟨g, k * 6 + 5, none⟩ = some (.int .u64 (c.kept : Int)) :=
  ⟨row_cell h.row _ _ (flat_get ws k 0 c hc (by decide)), row_cell h.row _ _ (flat_get ws k 1 c hc (by decide)), row_cell h.row _ _ (flat_get ws k 2 c hc (by decide)), row_cell h.row _ _ (flat_get ws k 3 c hc (by decide)), row_cell h.row _ _ (flat_get ws k 4 c hc (by decide)), row_cell h.row _ _ (flat_get ws k 5 c hc (by decide))⟩
theorem DevIs.free {w : World} {d g : Nat} {ws : List PW} (h : DevIs w d g ws) (o : Nat) : w.frozen? ⟨g, o, none⟩ = false := row_free h.row o

theorem Load_ok (w : World) (d g : Nat) (ws : List PW) (h : DevIs w d g ws) (k : Nat) (c : PW) (hc : ws[k]? = some c) :
    Calls Try.prog 13 #[ptr d, .int .i64 (k : Int)] w fun e w' => e = .returned (.tuple #[.int .u64 (c.seen : Int), .int .i64 0]) ∧ w' = w := by
  have HW := Lib.hid (Words_any w d g ws h)
  have HH := Lib.hid (has_any w d (k : Int) ws.length)
  have hlt := (List.getElem?_eq_some_iff.1 hc).1
  have hE : hasE (k : Int) ws.length = 0 := by unfold hasE; rw [if_neg (by omega)]
  rw [hE] at HH
  obtain ⟨_, cS, _⟩ := h.get hc
  have c1 : w.cell? ⟨d, 0, none⟩ = some (.slice (some ⟨g, 0, none⟩) ws.length ws.length) := by simp [World.cell?, h.dev]
  have hf := h.fits
  unfold ptr at HW HH ⊢
  generalize ws.length = n at HW HH hlt c1 hf
  generalize c.seen = V at cS
  have hlt' : (k : Int) < (n : Int) := by omega
  have k0 : (0 : Int) ≤ (k : Int) := by omega
  clear h hc hE
  go_enter Try.func13, Try.ntmps13
  go_wp2_with fail
  refine HW.out.mono ?_
  rintro e w1 ⟨rfl, rfl⟩
  go_wp2_with fail
  refine HH.out.mono ?_
  rintro e w1 ⟨rfl, rfl⟩
  go_wp2
  exact bodyPost_ret (v := .tuple #[.int .u64 (V : Int), .int .i64 0]) (by simp [results, Try.results13, go_sem]) rfl ⟨rfl, rfl⟩

theorem Load_no (w : World) (d g : Nat) (ws : List PW) (h : DevIs w d g ws) (a : Int) (hE : hasE a ws.length = 8) :
    Calls Try.prog 13 #[ptr d, .int .i64 a] w fun e w' => e = .returned (.tuple #[.int .u64 0, .int .i64 8]) ∧ w' = w := by
  have HW := Lib.hid (Words_any w d g ws h)
  have HH := Lib.hid (has_any w d a ws.length)
  rw [hE] at HH
  unfold ptr at HW HH ⊢
  generalize ws.length = n at HW HH
  clear h hE
  go_enter Try.func13, Try.ntmps13
  go_wp2_with fail
  refine HW.out.mono ?_
  rintro e w1 ⟨rfl, rfl⟩
  go_wp2_with fail
  refine HH.out.mono ?_
  rintro e w1 ⟨rfl, rfl⟩
  go_wp2
  exact bodyPost_ret (v := .tuple #[.int .u64 0, .int .i64 8]) (by simp [results, Try.results13, go_sem]) rfl ⟨rfl, rfl⟩

theorem Store_no (w : World) (d g : Nat) (ws : List PW) (h : DevIs w d g ws) (a : Int) (v : Nat) (hE : hasE a ws.length = 8) :
    Calls Try.prog 15 #[ptr d, .int .i64 a, .int .u64 (v : Int)] w fun e w' => e = .returned (.int .i64 8) ∧ w' = w := by
  have HW := Lib.hid (Words_any w d g ws h)
  have HH := Lib.hid (has_any w d a ws.length)
  rw [hE] at HH
  unfold ptr at HW HH ⊢
  generalize ws.length = n at HW HH
  clear h hE
  go_enter Try.func15, Try.ntmps15
  go_wp2_with fail
  refine HW.out.mono ?_
  rintro e w1 ⟨rfl, rfl⟩
  go_wp2_with fail
  refine HH.out.mono ?_
  rintro e w1 ⟨rfl, rfl⟩
  go_wp2
  go_ret
  exact ⟨rfl, rfl⟩

/-- Words of a device, one of them turned by a store into one of its cells. -/
theorem DevIs.put {w : World} {d g : Nat} {ws : List PW} (h : DevIs w d g ws) {k : Nat} {c c' : PW} (hc : ws[k]? = some c) (j : Nat) (hj : j < 6) (v : Value) (hv : c.vs.set j v = c'.vs) (hs : c'.Small) :
    DevIs (w.setCell ⟨g, k * 6 + j, none⟩ v) d g (ws.set k c') := by
  refine ⟨?_, ?_, h.ne, by rw [List.length_set]; exact h.fits, ?_⟩
  · rw [List.length_set]; exact ((grown_setCell w ⟨g, k * 6 + j, none⟩ v).block d (Array.getElem?_eq_some_iff.1 h.dev).1 (by intro e; cases e; exact h.ne rfl)).trans h.dev
  · rw [← flat_set ws k j c c' v hc hj hv]; exact row_set h.row _ _
  · intro x hx
    rcases List.mem_or_eq_of_mem_set hx with e | e
    · exact h.small x e
    · rw [e]; exact hs
theorem DevIs.of {w : World} {d g : Nat} {ws : List PW} (h : DevIs w d g ws) {k : Nat} {c : PW} (hc : ws[k]? = some c) : c.Small := h.small c (List.mem_of_getElem? hc)

theorem Store_ok (w : World) (d g : Nat) (ws : List PW) (h : DevIs w d g ws) (k : Nat) (c : PW) (hc : ws[k]? = some c) (v : Nat) (hv : v < 18446744073709551616) :
    Calls Try.prog 15 #[ptr d, .int .i64 (k : Int), .int .u64 (v : Int)] w fun e w' => e = .returned (.int .i64 0) ∧ DevIs w' d g (ws.set k (c.store v)) ∧ w.grownBy w' (some g) := by
  have HW := Lib.hid (Words_any w d g ws h)
  have HH := Lib.hid (has_any w d (k : Int) ws.length)
  have hlt := (List.getElem?_eq_some_iff.1 hc).1
  have hE : hasE (k : Int) ws.length = 0 := by unfold hasE; rw [if_neg (by omega)]
  rw [hE] at HH
  obtain ⟨f0, f1, f2, f3, f4, f5⟩ := h.get hc
  have z1 := h.free (k * 6 + 1)
  have z2 := h.free (k * 6 + 2)
  have z4 := h.free (k * 6 + 4)
  have c1 : w.cell? ⟨d, 0, none⟩ = some (.slice (some ⟨g, 0, none⟩) ws.length ws.length) := by simp [World.cell?, h.dev]
  have hf := h.fits
  have hgrow : Hid (w.grownBy (((w.setCell ⟨g, k * 6 + 1, none⟩ (.int .u64 (v : Int))).setCell ⟨g, k * 6 + 2, none⟩ (.bool true)).setCell ⟨g, k * 6 + 4, none⟩ (.bool c.flushed)) (some g)) :=
    Lib.hid (grown_trans (grown_trans (grown_setCell _ _ _) (grown_setCell _ ⟨g, k * 6 + 2, none⟩ _)) (grown_setCell _ ⟨g, k * 6 + 4, none⟩ _))
  have hdev : Hid (DevIs (((w.setCell ⟨g, k * 6 + 1, none⟩ (.int .u64 (v : Int))).setCell ⟨g, k * 6 + 2, none⟩ (.bool true)).setCell ⟨g, k * 6 + 4, none⟩ (.bool c.flushed)) d g (ws.set k (c.store v))) := Lib.hid (by
    have hsm := h.of hc
    have d1 := h.put (c' := { c with seen := v }) hc 1 (by decide) (.int .u64 (v : Int)) rfl ⟨hsm.1, hv, hsm.2.2⟩
    have d2 := d1.put (k := k) (c := { c with seen := v }) (c' := { c with seen := v, loose := true }) (by simp [hlt]) 2 (by decide) (.bool true) rfl ⟨hsm.1, hv, hsm.2.2⟩
    have d3 := d2.put (k := k) (c := { c with seen := v, loose := true }) (c' := c.store v) (by simp [hlt]) 4 (by decide) (.bool c.flushed) rfl ⟨hsm.1, hv, hsm.2.2⟩
    rw [List.set_set, List.set_set] at d3
    exact d3)
  unfold ptr at HW HH ⊢
  generalize hn : ws.length = n at HW HH hlt c1 hf
  generalize c.flushed = fl at f3 hgrow hdev
  generalize ws.set k (c.store v) = ws' at hdev ⊢
  have hlt' : (k : Int) < (n : Int) := by omega
  have k0 : (0 : Int) ≤ (k : Int) := by omega
  clear h hc hE hn
  go_enter Try.func15, Try.ntmps15
  go_wp2_with fail
  refine HW.out.mono ?_
  rintro e w1 ⟨rfl, rfl⟩
  go_wp2_with fail
  refine HH.out.mono ?_
  rintro e w1 ⟨rfl, rfl⟩
  go_wp2
  go_ret
  exact ⟨rfl, hdev.out, hgrow.out⟩
end Go.Proofs.Ytimihchklecabaa
