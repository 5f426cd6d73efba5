/- Package pmem: a word is settled; what a loss of power leaves of it. -/
import Derived.Test.YtimihchklecabaaPmB
namespace Go.Proofs.Ytimihchklecabaa
open Go.RowKit Go.Grommet

/-- A word that is settled. -/
def settled (v : Nat) (seen : Nat) : PW := ⟨v, seen, false, false, false, 0⟩

theorem settle_any (w : World) (d g : Nat) (ws : List PW) (h : DevIs w d g ws) (k : Nat) (c : PW) (hc : ws[k]? = some c) (v : Nat) (hv : v < 18446744073709551616) :
    Calls Try.prog 38 #[wordAt g k, .int .u64 (v : Int)] w fun e w' => (∃ x, e = .returned x) ∧ DevIs w' d g (ws.set k (settled v c.seen)) ∧ w.grownBy w' (some g) := by
  have hlt := (List.getElem?_eq_some_iff.1 hc).1
  obtain ⟨f0, f1, f2, f3, f4, f5⟩ := h.get hc
  have z0 := h.free (k * 6)
  have z2 := h.free (k * 6 + 2)
  have z3 := h.free (k * 6 + 3)
  have z4 := h.free (k * 6 + 4)
  have z5 := h.free (k * 6 + 5)
  have hgrow : Hid (w.grownBy (((((w.setCell ⟨g, k * 6, none⟩ (.int .u64 (v : Int))).setCell ⟨g, k * 6 + 2, none⟩ (.bool false)).setCell ⟨g, k * 6 + 3, none⟩ (.bool false)).setCell ⟨g, k * 6 + 4, none⟩ (.bool false)).setCell ⟨g, k * 6 + 5, none⟩ (.int .u64 0)) (some g)) :=
    Lib.hid (grown_trans (grown_trans (grown_trans (grown_trans (grown_setCell _ _ _) (grown_setCell _ ⟨g, k * 6 + 2, none⟩ _)) (grown_setCell _ ⟨g, k * 6 + 3, none⟩ _)) (grown_setCell _ ⟨g, k * 6 + 4, none⟩ _)) (grown_setCell _ ⟨g, k * 6 + 5, none⟩ _))
  have hdev : Hid (DevIs (((((w.setCell ⟨g, k * 6, none⟩ (.int .u64 (v : Int))).setCell ⟨g, k * 6 + 2, none⟩ (.bool false)).setCell ⟨g, k * 6 + 3, none⟩ (.bool false)).setCell ⟨g, k * 6 + 4, none⟩ (.bool false)).setCell ⟨g, k * 6 + 5, none⟩ (.int .u64 0)) d g (ws.set k (settled v c.seen))) := Lib.hid (by
    have hsm := h.of hc
    have d1 := h.put (c' := { c with sure := v }) hc 0 (by decide) (.int .u64 (v : Int)) rfl ⟨hv, hsm.2.1, hsm.2.2⟩
    have d2 := d1.put (k := k) (c := { c with sure := v }) (c' := { c with sure := v, loose := false }) (by simp [hlt]) 2 (by decide) (.bool false) rfl ⟨hv, hsm.2.1, hsm.2.2⟩
    have d3 := d2.put (k := k) (c := { c with sure := v, loose := false }) (c' := { c with sure := v, loose := false, flushed := false }) (by simp [hlt]) 3 (by decide) (.bool false) rfl ⟨hv, hsm.2.1, hsm.2.2⟩
    have d4 := d3.put (k := k) (c := { c with sure := v, loose := false, flushed := false }) (c' := { c with sure := v, loose := false, flushed := false, again := false }) (by simp [hlt]) 4 (by decide) (.bool false) rfl ⟨hv, hsm.2.1, hsm.2.2⟩
    have d5 := d4.put (k := k) (c := { c with sure := v, loose := false, flushed := false, again := false }) (c' := settled v c.seen) (by simp [hlt]) 5 (by decide) (.int .u64 0) rfl ⟨hv, hsm.2.1, by show 0 < _; decide⟩
    rw [List.set_set, List.set_set, List.set_set, List.set_set] at d5
    exact d5)
  unfold wordAt
  generalize ws.set k (settled v c.seen) = ws' at hdev ⊢
  clear h hc
  go_enter Try.func38, Try.ntmps38
  go_wp2
  first
  | (refine bodyPost_ret (results_none rfl _ _ _) rfl ?_; exact ⟨⟨_, rfl⟩, hdev.out, hgrow.out⟩)
  | (go_end0; exact ⟨⟨_, rfl⟩, hdev.out, hgrow.out⟩)

theorem left_any (w : World) (d g : Nat) (ws : List PW) (h : DevIs w d g ws) (k : Nat) (c : PW) (hc : ws[k]? = some c) (p : Nat) (hp : p < 256) :
    Calls Try.prog 39 #[wordAt g k, .int .u8 (p : Int)] w fun e w' => e = .returned (.int .u64 (c.left p : Int)) ∧ w' = w := by
  have hlt := (List.getElem?_eq_some_iff.1 hc).1
  obtain ⟨f0, f1, f2, f3, f4, f5⟩ := h.get hc
  have hm : Int.tmod (p : Int) 3 = ((p % 3 : Nat) : Int) := by rw [Int.tmod_eq_emod_of_nonneg (by omega)]; rfl
  have hm2 : (p : Int) % 3 = ((p % 3 : Nat) : Int) := rfl
  have hwr : IntKind.u8.wrap ((p % 3 : Nat) : Int) = ((p % 3 : Nat) : Int) := IntWalk.u8_in _ ⟨by omega, by omega⟩
  have h3 : p % 3 < 3 := Nat.mod_lt _ (by decide)
  have HL : Hid (∀ q, q = p % 3 → c.left p = if q = 2 then c.seen else if q = 1 ∧ c.flushed = true then c.kept else c.sure) := Lib.hid (fun q hq => by rw [hq]; rfl)
  have HQ := Lib.hid (show p % 3 = p % 3 from rfl)
  unfold wordAt
  clear h hc
  generalize hL : c.left p = L at HL
  generalize c.flushed = fl at f3 HL
  generalize hq : p % 3 = q at hm hm2 hwr h3 HL HQ
  have HL2 := HL.out q rfl
  replace HL2 := Lib.hid HL2
  clear HL HQ hq hL
  go_enter Try.func39, Try.ntmps39
  by_cases q2 : q = 2
  · subst q2
    obtain rfl := HL2.out
    go_wp2
    go_ret
    exact ⟨rfl, rfl⟩
  · by_cases q1 : q = 1
    · subst q1
      cases fl with
      | true =>
        obtain rfl := HL2.out
        go_wp2
        go_ret
        exact ⟨rfl, rfl⟩
      | false =>
        obtain rfl := HL2.out
        go_wp2
        go_ret
        exact ⟨rfl, rfl⟩
    · obtain rfl : q = 0 := by omega
      obtain rfl := HL2.out
      go_wp2
      go_ret
      exact ⟨rfl, rfl⟩
end Go.Proofs.Ytimihchklecabaa
