/- Texts of ours, packed. -/
import Derived.BigQuiet
import Derived.Deep.QuietTactic
import Derived.StillTailTactics
import Derived.Test.YtpdofdloclmbdaaGreatPk19
section
/- The document's device: whole lines, and all of it. -/
-- OPTIONAL
-- OPTIONAL
namespace Go.Proofs.YtpdofdloclmbdaaGreat
open Go.RowKit Go.Grommet Go.Shelf

theorem revict_small {c : RW} (h : c.Small) : c.evict.Small := by unfold RW.evict; split; exact ⟨h.2.1, h.2.1, by show 0 < _; decide⟩; exact h
theorem set_sameR {s : List RW} {k : Nat} {c : RW} (hc : s[k]? = some c) : s.set k c = s := by
  apply List.ext_getElem?
  intro i
  by_cases hi : i = k
  · subst hi; rw [List.getElem?_set_self (List.getElem?_eq_some_iff.1 hc).1, hc]
  · rw [List.getElem?_set_ne (fun e => hi e.symm)]
/-- The next word of a row of which some are done. -/
theorem rturn_next {f : RW → RW} {rs : List RW} {a m : Nat} {r : RW} (hr : rs[a + m]? = some r) : (rturn f a m rs)[a + m]? = some r ∧ rturn f a (m + 1) rs = (rturn f a m rs).set (a + m) (f r) := by
  have h1 : (rturn f a m rs)[a + m]? = some r := by rw [rturn_get, if_neg (by omega)]; exact hr
  exact ⟨h1, by rw [rturn_succ, rmodify_set h1]⟩

theorem evict_next {w0 wr : World} {Ps : List Pr} {kr g n B m t u : Nat} {rs : List RW} {r : RW} (hO : Grommet.Own w0 wr (Ps.set kr (rowR g n (rturn RW.evict B m rs)))) (hkl : kr < Ps.length) (hr : rs[t]? = some r) (ht : B + m = t) (hlo : r.loose = true) (hu : r.seen = u) :
    Grommet.Own w0 ((((((wr.setCell ⟨g, t * 6, none⟩ (.int .u64 (u : Int))).setCell ⟨g, t * 6 + 1, none⟩ (.int .u64 (u : Int))).setCell ⟨g, t * 6 + 2, none⟩ (.bool false)).setCell ⟨g, t * 6 + 3, none⟩ (.bool false)).setCell ⟨g, t * 6 + 4, none⟩ (.int .u64 0)).setCell ⟨g, t * 6 + 5, none⟩ (.bool false)).drew (Ps.set kr (rowR g n (rturn RW.evict B (m + 1) rs))) := by
  obtain ⟨hn1, hn2⟩ := rturn_next (f := RW.evict) (a := B) (m := m) (by rw [ht]; exact hr)
  rw [ht] at hn1 hn2
  have h1 := (rputAll hO (List.getElem?_set_self hkl) hn1 ⟨u, u, false, false, 0, false⟩).quiet (grown_drew (World.grownBy.refl _ none))
  rw [hn2, show RW.evict r = ⟨u, u, false, false, 0, false⟩ from by unfold RW.evict; rw [hlo, hu]; rfl]
  rw [List.set_set] at h1
  exact h1
end Go.Proofs.YtpdofdloclmbdaaGreat
end
