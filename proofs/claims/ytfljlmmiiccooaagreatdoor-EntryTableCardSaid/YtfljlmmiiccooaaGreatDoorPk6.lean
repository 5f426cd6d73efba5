import Derived.Test.YtfljlmmiiccooaaGreatDoorEvM3
import Derived.Lib.LaidTab
section
namespace Go.Ev
open Go.RowKit
def tabV (zs : List Int) : List V := zs.map (V.int .u8)
def tabHp (zs : List Int) : Hp := ⟨1, T.lf.set 0 (.cells (tabV zs).length (tree 0 .lf (tabV zs)) (fun _ => none) 0 true)⟩
def tabGl (g : Nat) (k : Nat) : Option Nat := if k = g then some 0 else none
theorem Rel.tab {P : Program} {w : World} {name : String} {zs : List Int} {g : Nat} (hg : P.globalNamed name = some g) (h : Lib.TabIs P w name .u8 zs) : Rel (tabGl g) w (fun n => n = 0) (fun _ => ⟨g, 0, 0⟩) (tabHp zs) w := by
 unfold Lib.TabIs World.var? at h
 simp only [hg, Option.bind_some] at h
 split at h
 ·rename_i c e fz hh
  simp only [Option.some.injEq] at h
  subst h
  have hget : (tabHp zs).get 0 = some (.cells (tabV zs).length (tree 0 .lf (tabV zs)) (fun _ => none) 0 true) := by
   unfold Hp.get tabHp
   simp [T.get_set]
  refine ⟨World.grownBy.refl _ _, fun n hn => by subst hn; exact Nat.zero_lt_one, fun n o hn ho => ?_, fun n m o p hn hm hne => absurd (hn.trans hm.symm) hne, fun k n hk => ?_⟩
  ·subst hn
   rw [hget] at ho
   cases ho
   refine ⟨_, e, fz, hh, fun i v hv => ?_, by simp, fun _ => (Array.getElem?_eq_some_iff.1 hh).1⟩
   rw [cellOf_new] at hv
   unfold tabV at hv
   rw [List.getElem?_map, Option.map_eq_some_iff] at hv
   obtain ⟨z, hz, rfl⟩ := hv
   refine ⟨?_, trivial, rfl⟩
   simp [hz, V.val_int]
  ·unfold tabGl at hk
   split at hk
   ·rename_i e; cases hk; subst e; exact ⟨rfl, rfl, rfl⟩
   ·cases hk
 ·cases h
end Go.Ev
end
