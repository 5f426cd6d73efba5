/-
  No cell of these rows narrows 'for every input' (looked for: loops, veiled, ifaces, maps, wideKeys, modest, calm, conditions, laid).
  DERIVED. THE GIVEN ROWS OF THIS SEAT. 7 by the template 'for every input the law returns true; each argument reads behind the call as it read before'; 0 by the template 'total and deterministic' (their statements: YtfmpamgflnklpaaTotals.lean).
  GIVEN WITH THE SEED: the statements are not yours to turn. If you find one false, say at which input.
  Laid BY PROGRAM, IN A SANDBOX (cutbox-rows.mjs): the forced cells as the released guide's own fill.sh prints them over the translation 2cac44eaf9e46151… (all of the seat's roots in one cut). By AI agents, Wed Nov 11 2026. No macro, syntax, notation, axiom, sorry.
-/
import Derived.Test.YtfmpamgflnklpaaChecked
import GoSem.Claim
import GoSem.ClaimJoined
import GoSem.ClaimMapViews
import Derived.JoinedTies
import Derived.KernelRfl
namespace Go.Proofs.Ytfmpamgflnklpaa
/- THE CELL 'sum', in the pinned program and in every row, IS THE sha256 OF THE DUMP (.gsa) THAT YtfmpamgflnklpaaProg.lean LOADS. Nothing in Lean hashes anything: it is a label: what it is worth is what the hold of that sum in a sandbox is worth. -/
noncomputable def Try.pinned : Pinned := { name := "ytfmpamgflnklpaa", sum := "2cac44eaf9e46151378eaa61693a7283a0e1fcc72652beae1ab49fb4fef39c0f", checked := Try.checked }
namespace Rows
def none {H : Type} : Left H := { results := [], args := [] }

/-- 'grommetlaw04.LayoutPlays': WHATEVER THE INPUT: true; the input reads as it did. -/
def layoutPlaysSpec : ChangeSpec := { name := "layoutPlays", fn := fun _ => fun
  | [d1, d2, d3] => { results := [.lit (.bool true)], args := [d1, d2, d3] }
  | _ => none }
def layoutPlaysRow : OpenClaim := { program := "ytfmpamgflnklpaa", sum := "2cac44eaf9e46151378eaa61693a7283a0e1fcc72652beae1ab49fb4fef39c0f", func := "grommet/grommetlaw04.LayoutPlays", spec := "layoutPlays", apart := false }
def LayoutPlaysSaid : Prop := layoutPlaysRow.holds Try.pinned (OpenSpec.ofChange layoutPlaysSpec)

/-- ITS FALSE NEIGHBOUR: 'it returns false'. Refute it at one input. -/
def layoutPlaysWrong : ChangeSpec := { name := "layoutPlays", fn := fun _ => fun
  | [d1, d2, d3] => { results := [.lit (.bool false)], args := [d1, d2, d3] }
  | _ => none }
def LayoutPlaysWrongFalsely : Prop := layoutPlaysRow.holds Try.pinned (OpenSpec.ofChange layoutPlaysWrong)

/-- 'grommetlaw04.LayoutWhere': WHATEVER THE INPUT: true; the input reads as it did. -/
def layoutWhereSpec : ChangeSpec := { name := "layoutWhere", fn := fun _ => fun
  | [d1, d2] => { results := [.lit (.bool true)], args := [d1, d2] }
  | _ => none }
def layoutWhereRow : OpenClaim := { program := "ytfmpamgflnklpaa", sum := "2cac44eaf9e46151378eaa61693a7283a0e1fcc72652beae1ab49fb4fef39c0f", func := "grommet/grommetlaw04.LayoutWhere", spec := "layoutWhere", apart := false }
def LayoutWhereSaid : Prop := layoutWhereRow.holds Try.pinned (OpenSpec.ofChange layoutWhereSpec)

/-- ITS FALSE NEIGHBOUR: 'it returns false'. Refute it at one input. -/
def layoutWhereWrong : ChangeSpec := { name := "layoutWhere", fn := fun _ => fun
  | [d1, d2] => { results := [.lit (.bool false)], args := [d1, d2] }
  | _ => none }
def LayoutWhereWrongFalsely : Prop := layoutWhereRow.holds Try.pinned (OpenSpec.ofChange layoutWhereWrong)

/-- 'grommetlaw04.LayoutFormats': WHATEVER THE INPUT: true; the input reads as it did. -/
def layoutFormatsSpec : ChangeSpec := { name := "layoutFormats", fn := fun _ => fun
  | [d1, d2, d3, d4] => { results := [.lit (.bool true)], args := [d1, d2, d3, d4] }
  | _ => none }
def layoutFormatsRow : OpenClaim := { program := "ytfmpamgflnklpaa", sum := "2cac44eaf9e46151378eaa61693a7283a0e1fcc72652beae1ab49fb4fef39c0f", func := "grommet/grommetlaw04.LayoutFormats", spec := "layoutFormats", apart := false }
def LayoutFormatsSaid : Prop := layoutFormatsRow.holds Try.pinned (OpenSpec.ofChange layoutFormatsSpec)

/-- ITS FALSE NEIGHBOUR: 'it returns false'. Refute it at one input. -/
def layoutFormatsWrong : ChangeSpec := { name := "layoutFormats", fn := fun _ => fun
  | [d1, d2, d3, d4] => { results := [.lit (.bool false)], args := [d1, d2, d3, d4] }
  | _ => none }
def LayoutFormatsWrongFalsely : Prop := layoutFormatsRow.holds Try.pinned (OpenSpec.ofChange layoutFormatsWrong)

/-- 'grommetlaw04.LayoutWhole': WHATEVER THE INPUT: true; the input reads as it did. -/
def layoutWholeSpec : ChangeSpec := { name := "layoutWhole", fn := fun _ => fun
  | [d1, d2, d3] => { results := [.lit (.bool true)], args := [d1, d2, d3] }
  | _ => none }
def layoutWholeRow : OpenClaim := { program := "ytfmpamgflnklpaa", sum := "2cac44eaf9e46151378eaa61693a7283a0e1fcc72652beae1ab49fb4fef39c0f", func := "grommet/grommetlaw04.LayoutWhole", spec := "layoutWhole", apart := false }
def LayoutWholeSaid : Prop := layoutWholeRow.holds Try.pinned (OpenSpec.ofChange layoutWholeSpec)

/-- ITS FALSE NEIGHBOUR: 'it returns false'. Refute it at one input. -/
def layoutWholeWrong : ChangeSpec := { name := "layoutWhole", fn := fun _ => fun
  | [d1, d2, d3] => { results := [.lit (.bool false)], args := [d1, d2, d3] }
  | _ => none }
def LayoutWholeWrongFalsely : Prop := layoutWholeRow.holds Try.pinned (OpenSpec.ofChange layoutWholeWrong)

/-- 'grommetlaw04.LayoutRows': WHATEVER THE INPUT: true; the input reads as it did. -/
def layoutRowsSpec : ChangeSpec := { name := "layoutRows", fn := fun _ => fun
  | [d1, d2, d3] => { results := [.lit (.bool true)], args := [d1, d2, d3] }
  | _ => none }
def layoutRowsRow : OpenClaim := { program := "ytfmpamgflnklpaa", sum := "2cac44eaf9e46151378eaa61693a7283a0e1fcc72652beae1ab49fb4fef39c0f", func := "grommet/grommetlaw04.LayoutRows", spec := "layoutRows", apart := false }
def LayoutRowsSaid : Prop := layoutRowsRow.holds Try.pinned (OpenSpec.ofChange layoutRowsSpec)

/-- ITS FALSE NEIGHBOUR: 'it returns false'. Refute it at one input. -/
def layoutRowsWrong : ChangeSpec := { name := "layoutRows", fn := fun _ => fun
  | [d1, d2, d3] => { results := [.lit (.bool false)], args := [d1, d2, d3] }
  | _ => none }
def LayoutRowsWrongFalsely : Prop := layoutRowsRow.holds Try.pinned (OpenSpec.ofChange layoutRowsWrong)

/-- 'grommetlaw04.LayoutNew': WHATEVER THE INPUT: true; the input reads as it did. -/
def layoutNewSpec : ChangeSpec := { name := "layoutNew", fn := fun _ => fun
  | [d1, d2, d3, d4] => { results := [.lit (.bool true)], args := [d1, d2, d3, d4] }
  | _ => none }
def layoutNewRow : OpenClaim := { program := "ytfmpamgflnklpaa", sum := "2cac44eaf9e46151378eaa61693a7283a0e1fcc72652beae1ab49fb4fef39c0f", func := "grommet/grommetlaw04.LayoutNew", spec := "layoutNew", apart := false }
def LayoutNewSaid : Prop := layoutNewRow.holds Try.pinned (OpenSpec.ofChange layoutNewSpec)

/-- ITS FALSE NEIGHBOUR: 'it returns false'. Refute it at one input. -/
def layoutNewWrong : ChangeSpec := { name := "layoutNew", fn := fun _ => fun
  | [d1, d2, d3, d4] => { results := [.lit (.bool false)], args := [d1, d2, d3, d4] }
  | _ => none }
def LayoutNewWrongFalsely : Prop := layoutNewRow.holds Try.pinned (OpenSpec.ofChange layoutNewWrong)

/-- 'grommetlaw04.LayoutNone': WHATEVER THE INPUT: true; the input reads as it did. -/
def layoutNoneSpec : ChangeSpec := { name := "layoutNone", fn := fun _ => fun
  | [d1, d2, d3] => { results := [.lit (.bool true)], args := [d1, d2, d3] }
  | _ => none }
def layoutNoneRow : OpenClaim := { program := "ytfmpamgflnklpaa", sum := "2cac44eaf9e46151378eaa61693a7283a0e1fcc72652beae1ab49fb4fef39c0f", func := "grommet/grommetlaw04.LayoutNone", spec := "layoutNone", apart := false }
def LayoutNoneSaid : Prop := layoutNoneRow.holds Try.pinned (OpenSpec.ofChange layoutNoneSpec)

/-- ITS FALSE NEIGHBOUR: 'it returns false'. Refute it at one input. -/
def layoutNoneWrong : ChangeSpec := { name := "layoutNone", fn := fun _ => fun
  | [d1, d2, d3] => { results := [.lit (.bool false)], args := [d1, d2, d3] }
  | _ => none }
def LayoutNoneWrongFalsely : Prop := layoutNoneRow.holds Try.pinned (OpenSpec.ofChange layoutNoneWrong)

/- THE SECOND FORM. 'bulk': how many values and letters a reading holds, each counted each time it is reached (what is shared counts as often as it is met; a slice's spare places count too). A statement '..UptoSaid' is the law's where the arguments, and the package variables that the reading takes, are together of bulk at most 1048576: NARROWER than '..Said'. Prove '..Said' where nothing that the law and all that it calls make is longer than what came in: it says more and counts as full. Else prove '..UptoSaid'. A law counts once. -/
mutual
def uptoBulk {H : Type} : DataW H → Nat
  | .lit (.string bytes) => bytes.length + 1
  | .lit _ => 1
  | .nil => 1
  | .ptr d => uptoBulk d + 1
  | .slice elems spare => uptoBulkAll elems + uptoBulkAll spare + 1
  | .agg parts => uptoBulkAll parts + 1
  | .iface _ d => uptoBulk d + 1
  | .map entries => uptoBulkEntries entries + 1
  | .held _ => 1
def uptoBulkAll {H : Type} : List (DataW H) → Nat
  | [] => 0
  | d :: r => uptoBulk d + uptoBulkAll r
def uptoBulkEntries {H : Type} : List (Lit × DataW H) → Nat
  | [] => 0
  | x :: r => uptoBulkEntry x + uptoBulkEntries r
def uptoBulkEntry {H : Type} : Lit × DataW H → Nat
  | (.string bytes, d) => bytes.length + uptoBulk d + 1
  | (_, d) => uptoBulk d + 1
 end
def uptoSmall : (H : Type) → List (DataW H) → Bool := fun _ ds => decide (uptoBulkAll ds ≤ 1048576)
def OpenSpec.upto (s : _root_.Go.ChangeSpec) : _root_.Go.OpenSpec := { _root_.Go.OpenSpec.ofChange s with cond := some uptoSmall }

/-- 'grommetlaw04.LayoutPlays', WHERE WHAT IT READS IS OF BULK AT MOST 1048576: true; the input reads as it did. -/
def layoutPlaysUptoRow : OpenClaim := { program := "ytfmpamgflnklpaa", sum := "2cac44eaf9e46151378eaa61693a7283a0e1fcc72652beae1ab49fb4fef39c0f", func := "grommet/grommetlaw04.LayoutPlays", spec := "layoutPlays", apart := false, narrowed := true }
def LayoutPlaysUptoSaid : Prop := layoutPlaysUptoRow.holds Try.pinned (OpenSpec.upto layoutPlaysSpec)

/-- 'grommetlaw04.LayoutWhere', WHERE WHAT IT READS IS OF BULK AT MOST 1048576: true; the input reads as it did. -/
def layoutWhereUptoRow : OpenClaim := { program := "ytfmpamgflnklpaa", sum := "2cac44eaf9e46151378eaa61693a7283a0e1fcc72652beae1ab49fb4fef39c0f", func := "grommet/grommetlaw04.LayoutWhere", spec := "layoutWhere", apart := false, narrowed := true }
def LayoutWhereUptoSaid : Prop := layoutWhereUptoRow.holds Try.pinned (OpenSpec.upto layoutWhereSpec)

/-- 'grommetlaw04.LayoutFormats', WHERE WHAT IT READS IS OF BULK AT MOST 1048576: true; the input reads as it did. -/
def layoutFormatsUptoRow : OpenClaim := { program := "ytfmpamgflnklpaa", sum := "2cac44eaf9e46151378eaa61693a7283a0e1fcc72652beae1ab49fb4fef39c0f", func := "grommet/grommetlaw04.LayoutFormats", spec := "layoutFormats", apart := false, narrowed := true }
def LayoutFormatsUptoSaid : Prop := layoutFormatsUptoRow.holds Try.pinned (OpenSpec.upto layoutFormatsSpec)

/-- 'grommetlaw04.LayoutWhole', WHERE WHAT IT READS IS OF BULK AT MOST 1048576: true; the input reads as it did. -/
def layoutWholeUptoRow : OpenClaim := { program := "ytfmpamgflnklpaa", sum := "2cac44eaf9e46151378eaa61693a7283a0e1fcc72652beae1ab49fb4fef39c0f", func := "grommet/grommetlaw04.LayoutWhole", spec := "layoutWhole", apart := false, narrowed := true }
def LayoutWholeUptoSaid : Prop := layoutWholeUptoRow.holds Try.pinned (OpenSpec.upto layoutWholeSpec)

/-- 'grommetlaw04.LayoutRows', WHERE WHAT IT READS IS OF BULK AT MOST 1048576: true; the input reads as it did. -/
def layoutRowsUptoRow : OpenClaim := { program := "ytfmpamgflnklpaa", sum := "2cac44eaf9e46151378eaa61693a7283a0e1fcc72652beae1ab49fb4fef39c0f", func := "grommet/grommetlaw04.LayoutRows", spec := "layoutRows", apart := false, narrowed := true }
def LayoutRowsUptoSaid : Prop := layoutRowsUptoRow.holds Try.pinned (OpenSpec.upto layoutRowsSpec)

/-- 'grommetlaw04.LayoutNew', WHERE WHAT IT READS IS OF BULK AT MOST 1048576: true; the input reads as it did. -/
def layoutNewUptoRow : OpenClaim := { program := "ytfmpamgflnklpaa", sum := "2cac44eaf9e46151378eaa61693a7283a0e1fcc72652beae1ab49fb4fef39c0f", func := "grommet/grommetlaw04.LayoutNew", spec := "layoutNew", apart := false, narrowed := true }
def LayoutNewUptoSaid : Prop := layoutNewUptoRow.holds Try.pinned (OpenSpec.upto layoutNewSpec)

/-- 'grommetlaw04.LayoutNone', WHERE WHAT IT READS IS OF BULK AT MOST 1048576: true; the input reads as it did. -/
def layoutNoneUptoRow : OpenClaim := { program := "ytfmpamgflnklpaa", sum := "2cac44eaf9e46151378eaa61693a7283a0e1fcc72652beae1ab49fb4fef39c0f", func := "grommet/grommetlaw04.LayoutNone", spec := "layoutNone", apart := false, narrowed := true }
def LayoutNoneUptoSaid : Prop := layoutNoneUptoRow.holds Try.pinned (OpenSpec.upto layoutNoneSpec)

end Rows
end Go.Proofs.Ytfmpamgflnklpaa
