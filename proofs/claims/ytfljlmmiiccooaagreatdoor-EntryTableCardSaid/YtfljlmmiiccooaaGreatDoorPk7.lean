import Derived.Test.YtfljlmmiiccooaaGreatDoorEvM2
import Derived.Test.YtfljlmmiiccooaaGreatDoorPk6
section
namespace Go.Ev
theorem evQ_true_tab {P : Program} (hm : P.follows .mixedOrders = true) {q : Nat → QC} (hq : Told P q) {n : Nat} {f : FuncId} (ht : tellable P f = true) {args : List V} {zs : List Int} {g : Nat} {name : String} (h : isTrueC ((evQ P (tabGl g) q n).call f args (tabHp zs)) = true) (ha : args.all V.plain = true)
  (hg : P.globalNamed name = some g) (w : World) (htab : Lib.TabIs P w name .u8 zs) : Calls P f (args.map (V.val fun _ => ⟨g, 0, 0⟩)).toArray w (WorksIs w) := by
 obtain ⟨H, hH⟩ := isTrueC_ok h
 refine (evQ_calls hm hq ht hH (Rel.tab hg htab) (fun a m => V.plain_in (List.all_eq_true.1 ha a m))).mono ?_
 rintro e w' ⟨D', ρ', rfl, _, hR, _⟩
 exact ⟨rfl, hR.grown⟩
end Go.Ev
end
