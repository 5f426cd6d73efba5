/- Texts of ours, packed. -/
import Derived.BigQuiet
import Derived.Deep.QuietTactic
import Derived.StillTailTactics
import Derived.Test.YtpdofdloclmbdaaGreatPk20
section
/- The document's device: whole lines, and all of it. -/
-- OPTIONAL
-- OPTIONAL
namespace Go.Proofs.YtpdofdloclmbdaaGreat
open Go.RowKit Go.Grommet Go.Shelf

theorem rflush_small {c : RW} (h : c.Small) : c.flush.Small := by unfold RW.flush; split; exact ⟨h.1, h.2.1, h.2.1⟩; exact h
theorem rfence_small {c : RW} (h : c.Small) : c.fence.Small := by unfold RW.fence; split; exact ⟨h.2.2, h.2.1, by show 0 < _; decide⟩; exact h
theorem revict_small {c : RW} (h : c.Small) : c.evict.Small := by unfold RW.evict; split; exact ⟨h.2.1, h.2.1, by show 0 < _; decide⟩; exact h
theorem set_sameR {s : List RW} {k : Nat} {c : RW} (hc : s[k]? = some c) : s.set k c = s := by
  apply List.ext_getElem?
  intro i
  by_cases hi : i = k
  · subst hi; rw [List.getElem?_set_self (List.getElem?_eq_some_iff.1 hc).1, hc]
  · rw [List.getElem?_set_ne (fun e => hi e.symm)]
/-- The next word of a row of which some are done. -/
theorem rturn_next {f : RW → RW} {rs : List RW} {a m : Nat} {r : RW} (hr : rs[a + m]? = some r) : (rturn f a m rs)[a + m]? = some r ∧ rturn f a (m + 1) rs = (rturn f a m rs).set (a + m) (f r) := by
  have h1 : (rturn f a m rs)[a + m]? = some r := by rw [rturn_get, if_neg (by omega)]; exact hr
  exact ⟨h1, by rw [rturn_succ, rmodify_set h1]⟩

theorem evict_next {w0 wr : World} {Ps : List Pr} {kr g n B m t u : Nat} {rs : List RW} {r : RW} (hO : Grommet.Own w0 wr (Ps.set kr (rowR g n (rturn RW.evict B m rs)))) (hkl : kr < Ps.length) (hr : rs[t]? = some r) (ht : B + m = t) (hlo : r.loose = true) (hu : r.seen = u) :
    Grommet.Own w0 ((((((wr.setCell ⟨g, t * 6, none⟩ (.int .u64 (u : Int))).setCell ⟨g, t * 6 + 1, none⟩ (.int .u64 (u : Int))).setCell ⟨g, t * 6 + 2, none⟩ (.bool false)).setCell ⟨g, t * 6 + 3, none⟩ (.bool false)).setCell ⟨g, t * 6 + 4, none⟩ (.int .u64 0)).setCell ⟨g, t * 6 + 5, none⟩ (.bool false)).drew (Ps.set kr (rowR g n (rturn RW.evict B (m + 1) rs))) := by
  obtain ⟨hn1, hn2⟩ := rturn_next (f := RW.evict) (a := B) (m := m) (by rw [ht]; exact hr)
  rw [ht] at hn1 hn2
  have h1 := (rputAll hO (List.getElem?_set_self hkl) hn1 ⟨u, u, false, false, 0, false⟩).quiet (grown_drew (World.grownBy.refl _ none))
  rw [hn2, show RW.evict r = ⟨u, u, false, false, 0, false⟩ from by unfold RW.evict; rw [hlo, hu]; rfl]
  rw [List.set_set] at h1
  exact h1
theorem fence_next {w0 wr : World} {Ps : List Pr} {kr g n t u1 u4 : Nat} {b5 : Bool} {rs : List RW} {r : RW} (hO : Grommet.Own w0 wr (Ps.set kr (rowR g n (rturn RW.fence 0 t rs)))) (hkl : kr < Ps.length) (hr : rs[t]? = some r) (hlo : r.flushed = true) (h1 : r.seen = u1) (h4 : r.value = u4) (h5 : r.again = b5) :
    Grommet.Own w0 ((((((wr.setCell ⟨g, t * 6, none⟩ (.int .u64 (u4 : Int))).setCell ⟨g, t * 6 + 1, none⟩ (.int .u64 (u1 : Int))).setCell ⟨g, t * 6 + 2, none⟩ (.bool b5)).setCell ⟨g, t * 6 + 3, none⟩ (.bool false)).setCell ⟨g, t * 6 + 4, none⟩ (.int .u64 0)).setCell ⟨g, t * 6 + 5, none⟩ (.bool b5)).drew (Ps.set kr (rowR g n (rturn RW.fence 0 (t + 1) rs))) := by
  obtain ⟨hn1, hn2⟩ := rturn_next (f := RW.fence) (a := 0) (m := t) (by rw [Nat.zero_add]; exact hr)
  rw [Nat.zero_add] at hn1 hn2
  have h1' := (rputAll hO (List.getElem?_set_self hkl) hn1 ⟨u4, u1, b5, false, 0, b5⟩).quiet (grown_drew (World.grownBy.refl _ none))
  rw [hn2, show RW.fence r = ⟨u4, u1, b5, false, 0, b5⟩ from by unfold RW.fence; rw [hlo, h1, h4, h5]; rfl]
  rw [List.set_set] at h1'
  exact h1'
theorem crash_next {w0 wr : World} {Ps : List Pr} {kr g n t v : Nat} {rs : List RW} {ps : List Nat} {r : RW} (hO : Grommet.Own w0 wr (Ps.set kr (rowR g n (rcrash rs ps t)))) (hkl : kr < Ps.length) (hr : rs[t]? = some r) (hv : lostV rs ps t r = v) :
    Grommet.Own w0 ((((((wr.setCell ⟨g, t * 6, none⟩ (.int .u64 (v : Int))).setCell ⟨g, t * 6 + 1, none⟩ (.int .u64 (v : Int))).setCell ⟨g, t * 6 + 2, none⟩ (.bool false)).setCell ⟨g, t * 6 + 3, none⟩ (.bool false)).setCell ⟨g, t * 6 + 4, none⟩ (.int .u64 0)).setCell ⟨g, t * 6 + 5, none⟩ (.bool false)) (Ps.set kr (rowR g n (rcrash rs ps (t + 1)))) := by
  have hn1 : (rcrash rs ps t)[t]? = some r := by rw [rcrash_get, if_neg (Nat.lt_irrefl _)]; exact hr
  have h1 := rputAll hO (List.getElem?_set_self hkl) hn1 ⟨v, v, false, false, 0, false⟩
  rw [rcrash_succ, rmodify_set hn1, hv]
  rw [List.set_set] at h1
  exact h1
theorem flush_one {w0 wr : World} {Ps : List Pr} {kr g n B m t : Nat} {rs : List RW} {r : RW} (hO : Grommet.Own w0 wr (Ps.set kr (rowR g n (rturn RW.flush B m rs)))) (hkl : kr < Ps.length) (hr : rs[t]? = some r) (ht : B + m = t) :
    Grommet.Own w0 (wr.setCell ⟨g, t * 6 + 3, none⟩ (.bool true)) (Ps.set kr (rowR g n ((rturn RW.flush B m rs).set t { r with flushed := true }))) ∧ ((rturn RW.flush B m rs).set t { r with flushed := true })[t]? = some { r with flushed := true } := by
  obtain ⟨hn1, _⟩ := rturn_next (f := RW.flush) (a := B) (m := m) (by rw [ht]; exact hr)
  rw [ht] at hn1
  have h1 := rput hO (List.getElem?_set_self hkl) (c' := { r with flushed := true }) hn1 3 (by decide) (.bool true) rfl
  rw [List.set_set] at h1
  exact ⟨h1, by simp [(List.getElem?_eq_some_iff.1 hn1).1]⟩
theorem flush_two {w0 w8 : World} {Ps : List Pr} {kr g n B m t u : Nat} {rs : List RW} {r : RW} (hO : Grommet.Own w0 w8 (Ps.set kr (rowR g n ((rturn RW.flush B m rs).set t { r with flushed := true })))) (hkl : kr < Ps.length) (hr : rs[t]? = some r) (ht : B + m = t) (hlo : r.loose = true) (hu : r.seen = u) :
    Grommet.Own w0 ((w8.drew.setCell ⟨g, t * 6 + 4, none⟩ (.int .u64 (u : Int))).setCell ⟨g, t * 6 + 5, none⟩ (.bool false)) (Ps.set kr (rowR g n (rturn RW.flush B (m + 1) rs))) := by
  obtain ⟨hn1, hn2⟩ := rturn_next (f := RW.flush) (a := B) (m := m) (by rw [ht]; exact hr)
  rw [ht] at hn1 hn2
  have hl := (List.getElem?_eq_some_iff.1 hn1).1
  have h1 := rput2 (hO.quiet (grown_drew (World.grownBy.refl _ none))) hkl hl (c' := { r with flushed := true, value := u }) 4 (by decide) (.int .u64 (u : Int)) rfl
  have h2 := rput2 h1 hkl hl (c' := RW.flush r) 5 (by decide) (.bool false) (by unfold RW.flush; rw [hlo, hu]; rfl)
  rw [hn2]
  exact h2
end Go.Proofs.YtpdofdloclmbdaaGreat
end
