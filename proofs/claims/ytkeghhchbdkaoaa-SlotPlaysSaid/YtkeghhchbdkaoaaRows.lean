/-
  No cell of these rows narrows 'for every input' (looked for: loops, veiled, ifaces, maps, wideKeys, modest, calm, conditions, laid).
  DERIVED. THE GIVEN ROWS OF THIS SEAT. 5 by the template 'for every input the law returns true; each argument reads behind the call as it read before'; 0 by the template 'total and deterministic' (their statements: YtkeghhchbdkaoaaTotals.lean).
  GIVEN WITH THE SEED: the statements are not yours to turn. If you find one false, say at which input.
  Laid BY PROGRAM, IN A SANDBOX (cutbox-rows.mjs): the forced cells as the released guide's own fill.sh prints them over the translation 7243d914b5fb40c8… (all of the seat's roots in one cut). By AI agents, Wed Nov 11 2026. No macro, syntax, notation, axiom, sorry.
-/
import Derived.Test.YtkeghhchbdkaoaaChecked
import GoSem.Claim
import GoSem.ClaimJoined
import GoSem.ClaimMapViews
import Derived.JoinedTies
import Derived.KernelRfl
namespace Go.Proofs.Ytkeghhchbdkaoaa
/- THE CELL 'sum', in the pinned program and in every row, IS THE sha256 OF THE DUMP (.gsa) THAT YtkeghhchbdkaoaaProg.lean LOADS. Nothing in Lean hashes anything: it is a label: what it is worth is what the hold of that sum in a sandbox is worth. -/
noncomputable def Try.pinned : Pinned := { name := "ytkeghhchbdkaoaa", sum := "7243d914b5fb40c88a1f5466de3a02bdb6f5f823bab3aa1fd912094686388fa4", checked := Try.checked }
namespace Rows
def none {H : Type} : Left H := { results := [], args := [] }

/-- 'grommetlaw10.SlotPlays': WHATEVER THE INPUT: true; the input reads as it did. -/
def slotPlaysSpec : ChangeSpec := { name := "slotPlays", fn := fun _ => fun
  | [d1, d2, d3] => { results := [.lit (.bool true)], args := [d1, d2, d3] }
  | _ => none }
def slotPlaysRow : OpenClaim := { program := "ytkeghhchbdkaoaa", sum := "7243d914b5fb40c88a1f5466de3a02bdb6f5f823bab3aa1fd912094686388fa4", func := "grommet/grommetlaw10.SlotPlays", spec := "slotPlays", unfollowed := true, recurses := true, apart := false }
def SlotPlaysSaid : Prop := slotPlaysRow.holds Try.pinned (OpenSpec.ofChange slotPlaysSpec)

/-- ITS FALSE NEIGHBOUR: 'it returns false'. Refute it at one input. -/
def slotPlaysWrong : ChangeSpec := { name := "slotPlays", fn := fun _ => fun
  | [d1, d2, d3] => { results := [.lit (.bool false)], args := [d1, d2, d3] }
  | _ => none }
def SlotPlaysWrongFalsely : Prop := slotPlaysRow.holds Try.pinned (OpenSpec.ofChange slotPlaysWrong)

/-- 'grommetlaw10.SlotBack': WHATEVER THE INPUT: true; the input reads as it did. -/
def slotBackSpec : ChangeSpec := { name := "slotBack", fn := fun _ => fun
  | [d1, d2, d3, d4, d5] => { results := [.lit (.bool true)], args := [d1, d2, d3, d4, d5] }
  | _ => none }
def slotBackRow : OpenClaim := { program := "ytkeghhchbdkaoaa", sum := "7243d914b5fb40c88a1f5466de3a02bdb6f5f823bab3aa1fd912094686388fa4", func := "grommet/grommetlaw10.SlotBack", spec := "slotBack", unfollowed := true, recurses := true, apart := false }
def SlotBackSaid : Prop := slotBackRow.holds Try.pinned (OpenSpec.ofChange slotBackSpec)

/-- ITS FALSE NEIGHBOUR: 'it returns false'. Refute it at one input. -/
def slotBackWrong : ChangeSpec := { name := "slotBack", fn := fun _ => fun
  | [d1, d2, d3, d4, d5] => { results := [.lit (.bool false)], args := [d1, d2, d3, d4, d5] }
  | _ => none }
def SlotBackWrongFalsely : Prop := slotBackRow.holds Try.pinned (OpenSpec.ofChange slotBackWrong)

/-- 'grommetlaw10.SlotHeads': WHATEVER THE INPUT: true; the input reads as it did. -/
def slotHeadsSpec : ChangeSpec := { name := "slotHeads", fn := fun _ => fun
  | [d1, d2, d3, d4] => { results := [.lit (.bool true)], args := [d1, d2, d3, d4] }
  | _ => none }
def slotHeadsRow : OpenClaim := { program := "ytkeghhchbdkaoaa", sum := "7243d914b5fb40c88a1f5466de3a02bdb6f5f823bab3aa1fd912094686388fa4", func := "grommet/grommetlaw10.SlotHeads", spec := "slotHeads", unfollowed := true, recurses := true, apart := false }
def SlotHeadsSaid : Prop := slotHeadsRow.holds Try.pinned (OpenSpec.ofChange slotHeadsSpec)

/-- ITS FALSE NEIGHBOUR: 'it returns false'. Refute it at one input. -/
def slotHeadsWrong : ChangeSpec := { name := "slotHeads", fn := fun _ => fun
  | [d1, d2, d3, d4] => { results := [.lit (.bool false)], args := [d1, d2, d3, d4] }
  | _ => none }
def SlotHeadsWrongFalsely : Prop := slotHeadsRow.holds Try.pinned (OpenSpec.ofChange slotHeadsWrong)

/-- 'grommetlaw10.SlotWipes': WHATEVER THE INPUT: true; the input reads as it did. -/
def slotWipesSpec : ChangeSpec := { name := "slotWipes", fn := fun _ => fun
  | [d1, d2] => { results := [.lit (.bool true)], args := [d1, d2] }
  | _ => none }
def slotWipesRow : OpenClaim := { program := "ytkeghhchbdkaoaa", sum := "7243d914b5fb40c88a1f5466de3a02bdb6f5f823bab3aa1fd912094686388fa4", func := "grommet/grommetlaw10.SlotWipes", spec := "slotWipes", unfollowed := true, recurses := true, apart := false }
def SlotWipesSaid : Prop := slotWipesRow.holds Try.pinned (OpenSpec.ofChange slotWipesSpec)

/-- ITS FALSE NEIGHBOUR: 'it returns false'. Refute it at one input. -/
def slotWipesWrong : ChangeSpec := { name := "slotWipes", fn := fun _ => fun
  | [d1, d2] => { results := [.lit (.bool false)], args := [d1, d2] }
  | _ => none }
def SlotWipesWrongFalsely : Prop := slotWipesRow.holds Try.pinned (OpenSpec.ofChange slotWipesWrong)

/-- 'grommetlaw10.SlotNil': WHATEVER THE INPUT: true; the input reads as it did. -/
def slotNilSpec : ChangeSpec := { name := "slotNil", fn := fun _ => fun
  | [d1, d2, d3, d4] => { results := [.lit (.bool true)], args := [d1, d2, d3, d4] }
  | _ => none }
def slotNilRow : OpenClaim := { program := "ytkeghhchbdkaoaa", sum := "7243d914b5fb40c88a1f5466de3a02bdb6f5f823bab3aa1fd912094686388fa4", func := "grommet/grommetlaw10.SlotNil", spec := "slotNil", unfollowed := true, recurses := true, apart := false }
def SlotNilSaid : Prop := slotNilRow.holds Try.pinned (OpenSpec.ofChange slotNilSpec)

/-- ITS FALSE NEIGHBOUR: 'it returns false'. Refute it at one input. -/
def slotNilWrong : ChangeSpec := { name := "slotNil", fn := fun _ => fun
  | [d1, d2, d3, d4] => { results := [.lit (.bool false)], args := [d1, d2, d3, d4] }
  | _ => none }
def SlotNilWrongFalsely : Prop := slotNilRow.holds Try.pinned (OpenSpec.ofChange slotNilWrong)

/- THE SECOND FORM. 'bulk': how many values and letters a reading holds, each counted each time it is reached (what is shared counts as often as it is met; a slice's spare places count too). A statement '..UptoSaid' is the law's where the arguments, and the package variables that the reading takes, are together of bulk at most 1048576: NARROWER than '..Said'. Prove '..Said' where nothing that the law and all that it calls make is longer than what came in: it says more and counts as full. Else prove '..UptoSaid'. A law counts once. -/
mutual
def uptoBulk {H : Type} : DataW H → Nat
  | .lit (.string bytes) => bytes.length + 1
  | .lit _ => 1
  | .nil => 1
  | .ptr d => uptoBulk d + 1
  | .slice elems spare => uptoBulkAll elems + uptoBulkAll spare + 1
  | .agg parts => uptoBulkAll parts + 1
  | .iface _ d => uptoBulk d + 1
  | .map entries => uptoBulkEntries entries + 1
  | .held _ => 1
def uptoBulkAll {H : Type} : List (DataW H) → Nat
  | [] => 0
  | d :: r => uptoBulk d + uptoBulkAll r
def uptoBulkEntries {H : Type} : List (Lit × DataW H) → Nat
  | [] => 0
  | x :: r => uptoBulkEntry x + uptoBulkEntries r
def uptoBulkEntry {H : Type} : Lit × DataW H → Nat
  | (.string bytes, d) => bytes.length + uptoBulk d + 1
  | (_, d) => uptoBulk d + 1
 end
def uptoSmall : (H : Type) → List (DataW H) → Bool := fun _ ds => decide (uptoBulkAll ds ≤ 1048576)
def OpenSpec.upto (s : _root_.Go.ChangeSpec) : _root_.Go.OpenSpec := { _root_.Go.OpenSpec.ofChange s with cond := some uptoSmall }

/-- 'grommetlaw10.SlotPlays', WHERE WHAT IT READS IS OF BULK AT MOST 1048576: true; the input reads as it did. -/
def slotPlaysUptoRow : OpenClaim := { program := "ytkeghhchbdkaoaa", sum := "7243d914b5fb40c88a1f5466de3a02bdb6f5f823bab3aa1fd912094686388fa4", func := "grommet/grommetlaw10.SlotPlays", spec := "slotPlays", unfollowed := true, recurses := true, apart := false, narrowed := true }
def SlotPlaysUptoSaid : Prop := slotPlaysUptoRow.holds Try.pinned (OpenSpec.upto slotPlaysSpec)

/-- 'grommetlaw10.SlotBack', WHERE WHAT IT READS IS OF BULK AT MOST 1048576: true; the input reads as it did. -/
def slotBackUptoRow : OpenClaim := { program := "ytkeghhchbdkaoaa", sum := "7243d914b5fb40c88a1f5466de3a02bdb6f5f823bab3aa1fd912094686388fa4", func := "grommet/grommetlaw10.SlotBack", spec := "slotBack", unfollowed := true, recurses := true, apart := false, narrowed := true }
def SlotBackUptoSaid : Prop := slotBackUptoRow.holds Try.pinned (OpenSpec.upto slotBackSpec)

/-- 'grommetlaw10.SlotHeads', WHERE WHAT IT READS IS OF BULK AT MOST 1048576: true; the input reads as it did. -/
def slotHeadsUptoRow : OpenClaim := { program := "ytkeghhchbdkaoaa", sum := "7243d914b5fb40c88a1f5466de3a02bdb6f5f823bab3aa1fd912094686388fa4", func := "grommet/grommetlaw10.SlotHeads", spec := "slotHeads", unfollowed := true, recurses := true, apart := false, narrowed := true }
def SlotHeadsUptoSaid : Prop := slotHeadsUptoRow.holds Try.pinned (OpenSpec.upto slotHeadsSpec)

/-- 'grommetlaw10.SlotWipes', WHERE WHAT IT READS IS OF BULK AT MOST 1048576: true; the input reads as it did. -/
def slotWipesUptoRow : OpenClaim := { program := "ytkeghhchbdkaoaa", sum := "7243d914b5fb40c88a1f5466de3a02bdb6f5f823bab3aa1fd912094686388fa4", func := "grommet/grommetlaw10.SlotWipes", spec := "slotWipes", unfollowed := true, recurses := true, apart := false, narrowed := true }
def SlotWipesUptoSaid : Prop := slotWipesUptoRow.holds Try.pinned (OpenSpec.upto slotWipesSpec)

/-- 'grommetlaw10.SlotNil', WHERE WHAT IT READS IS OF BULK AT MOST 1048576: true; the input reads as it did. -/
def slotNilUptoRow : OpenClaim := { program := "ytkeghhchbdkaoaa", sum := "7243d914b5fb40c88a1f5466de3a02bdb6f5f823bab3aa1fd912094686388fa4", func := "grommet/grommetlaw10.SlotNil", spec := "slotNil", unfollowed := true, recurses := true, apart := false, narrowed := true }
def SlotNilUptoSaid : Prop := slotNilUptoRow.holds Try.pinned (OpenSpec.upto slotNilSpec)

end Rows
end Go.Proofs.Ytkeghhchbdkaoaa
