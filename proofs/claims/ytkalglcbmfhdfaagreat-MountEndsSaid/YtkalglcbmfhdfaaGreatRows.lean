/-
  No cell of these rows narrows 'for every input' (looked for: loops, veiled, ifaces, maps, wideKeys, modest, calm, conditions, laid).
  DERIVED. THE GIVEN ROWS OF THIS SEAT. 3 by the template 'for every input the law returns true; each argument reads behind the call as it read before'; 0 by the template 'total and deterministic' (their statements: YtkalglcbmfhdfaaGreatTotals.lean).
  GIVEN WITH THE SEED: the statements are not yours to turn. If you find one false, say at which input.
  Laid BY PROGRAM, IN A SANDBOX (cutbox-rows.mjs): the forced cells as the released guide's own fill.sh prints them over the translation 80971d7eb2711107… (all of the seat's roots in one cut). By AI agents, Wed Nov 11 2026. No macro, syntax, notation, axiom, sorry.
-/
import Derived.Test.YtkalglcbmfhdfaaGreatChecked
import GoSem.Claim
import GoSem.ClaimJoined
import GoSem.ClaimMapViews
import Derived.JoinedTies
import Derived.KernelRfl
namespace Go.Proofs.YtkalglcbmfhdfaaGreat
/- THE CELL 'sum', in the pinned program and in every row, IS THE sha256 OF THE DUMP (.gsa) THAT YtkalglcbmfhdfaaGreatProg.lean LOADS. Nothing in Lean hashes anything: it is a label: what it is worth is what the hold of that sum in a sandbox is worth. -/
noncomputable def Tryz.pinned : Pinned := { name := "ytkalglcbmfhdfaagreat", sum := "80971d7eb27111079ef07f66107a8d64cf8fabaa1116d37d9fa1005f25292126", checked := Tryz.checked }
namespace Rows
def none {H : Type} : Left H := { results := [], args := [] }

/-- 'grommetlaw24.MountPlays': WHATEVER THE INPUT: true; the input reads as it did. -/
def mountPlaysSpec : ChangeSpec := { name := "mountPlays", fn := fun _ => fun
  | [d1, d2, d3, d4, d5] => { results := [.lit (.bool true)], args := [d1, d2, d3, d4, d5] }
  | _ => none }
def mountPlaysRow : OpenClaim := { program := "ytkalglcbmfhdfaagreat", sum := "80971d7eb27111079ef07f66107a8d64cf8fabaa1116d37d9fa1005f25292126", func := "grommet/grommetlaw24.MountPlays", spec := "mountPlays", unfollowed := true, recurses := true, apart := false }
def MountPlaysSaid : Prop := mountPlaysRow.holds Tryz.pinned (OpenSpec.ofChange mountPlaysSpec)

/-- ITS FALSE NEIGHBOUR: 'it returns false'. Refute it at one input. -/
def mountPlaysWrong : ChangeSpec := { name := "mountPlays", fn := fun _ => fun
  | [d1, d2, d3, d4, d5] => { results := [.lit (.bool false)], args := [d1, d2, d3, d4, d5] }
  | _ => none }
def MountPlaysWrongFalsely : Prop := mountPlaysRow.holds Tryz.pinned (OpenSpec.ofChange mountPlaysWrong)

/-- 'grommetlaw24.MountEnds': WHATEVER THE INPUT: true; the input reads as it did. -/
def mountEndsSpec : ChangeSpec := { name := "mountEnds", fn := fun _ => fun
  | [d1, d2, d3] => { results := [.lit (.bool true)], args := [d1, d2, d3] }
  | _ => none }
def mountEndsRow : OpenClaim := { program := "ytkalglcbmfhdfaagreat", sum := "80971d7eb27111079ef07f66107a8d64cf8fabaa1116d37d9fa1005f25292126", func := "grommet/grommetlaw24.MountEnds", spec := "mountEnds", unfollowed := true, recurses := true, apart := false }
def MountEndsSaid : Prop := mountEndsRow.holds Tryz.pinned (OpenSpec.ofChange mountEndsSpec)

/-- ITS FALSE NEIGHBOUR: 'it returns false'. Refute it at one input. -/
def mountEndsWrong : ChangeSpec := { name := "mountEnds", fn := fun _ => fun
  | [d1, d2, d3] => { results := [.lit (.bool false)], args := [d1, d2, d3] }
  | _ => none }
def MountEndsWrongFalsely : Prop := mountEndsRow.holds Tryz.pinned (OpenSpec.ofChange mountEndsWrong)

/-- 'grommetlaw24.MountFormats': WHATEVER THE INPUT: true; the input reads as it did. -/
def mountFormatsSpec : ChangeSpec := { name := "mountFormats", fn := fun _ => fun
  | [d1, d2, d3] => { results := [.lit (.bool true)], args := [d1, d2, d3] }
  | _ => none }
def mountFormatsRow : OpenClaim := { program := "ytkalglcbmfhdfaagreat", sum := "80971d7eb27111079ef07f66107a8d64cf8fabaa1116d37d9fa1005f25292126", func := "grommet/grommetlaw24.MountFormats", spec := "mountFormats", unfollowed := true, recurses := true, apart := false }
def MountFormatsSaid : Prop := mountFormatsRow.holds Tryz.pinned (OpenSpec.ofChange mountFormatsSpec)

/-- ITS FALSE NEIGHBOUR: 'it returns false'. Refute it at one input. -/
def mountFormatsWrong : ChangeSpec := { name := "mountFormats", fn := fun _ => fun
  | [d1, d2, d3] => { results := [.lit (.bool false)], args := [d1, d2, d3] }
  | _ => none }
def MountFormatsWrongFalsely : Prop := mountFormatsRow.holds Tryz.pinned (OpenSpec.ofChange mountFormatsWrong)

/- THE SECOND FORM. 'bulk': how many values and letters a reading holds, each counted each time it is reached (what is shared counts as often as it is met; a slice's spare places count too). A statement '..UptoSaid' is the law's where the arguments, and the package variables that the reading takes, are together of bulk at most 1048576: NARROWER than '..Said'. Prove '..Said' where nothing that the law and all that it calls make is longer than what came in: it says more and counts as full. Else prove '..UptoSaid'. A law counts once. -/
mutual
def uptoBulk {H : Type} : DataW H → Nat
  | .lit (.string bytes) => bytes.length + 1
  | .lit _ => 1
  | .nil => 1
  | .ptr d => uptoBulk d + 1
  | .slice elems spare => uptoBulkAll elems + uptoBulkAll spare + 1
  | .agg parts => uptoBulkAll parts + 1
  | .iface _ d => uptoBulk d + 1
  | .map entries => uptoBulkEntries entries + 1
  | .held _ => 1
def uptoBulkAll {H : Type} : List (DataW H) → Nat
  | [] => 0
  | d :: r => uptoBulk d + uptoBulkAll r
def uptoBulkEntries {H : Type} : List (Lit × DataW H) → Nat
  | [] => 0
  | x :: r => uptoBulkEntry x + uptoBulkEntries r
def uptoBulkEntry {H : Type} : Lit × DataW H → Nat
  | (.string bytes, d) => bytes.length + uptoBulk d + 1
  | (_, d) => uptoBulk d + 1
 end
def uptoSmall : (H : Type) → List (DataW H) → Bool := fun _ ds => decide (uptoBulkAll ds ≤ 1048576)
def OpenSpec.upto (s : _root_.Go.ChangeSpec) : _root_.Go.OpenSpec := { _root_.Go.OpenSpec.ofChange s with cond := some uptoSmall }

/-- 'grommetlaw24.MountPlays', WHERE WHAT IT READS IS OF BULK AT MOST 1048576: true; the input reads as it did. -/
def mountPlaysUptoRow : OpenClaim := { program := "ytkalglcbmfhdfaagreat", sum := "80971d7eb27111079ef07f66107a8d64cf8fabaa1116d37d9fa1005f25292126", func := "grommet/grommetlaw24.MountPlays", spec := "mountPlays", unfollowed := true, recurses := true, apart := false, narrowed := true }
def MountPlaysUptoSaid : Prop := mountPlaysUptoRow.holds Tryz.pinned (OpenSpec.upto mountPlaysSpec)

/-- 'grommetlaw24.MountEnds', WHERE WHAT IT READS IS OF BULK AT MOST 1048576: true; the input reads as it did. -/
def mountEndsUptoRow : OpenClaim := { program := "ytkalglcbmfhdfaagreat", sum := "80971d7eb27111079ef07f66107a8d64cf8fabaa1116d37d9fa1005f25292126", func := "grommet/grommetlaw24.MountEnds", spec := "mountEnds", unfollowed := true, recurses := true, apart := false, narrowed := true }
def MountEndsUptoSaid : Prop := mountEndsUptoRow.holds Tryz.pinned (OpenSpec.upto mountEndsSpec)

/-- 'grommetlaw24.MountFormats', WHERE WHAT IT READS IS OF BULK AT MOST 1048576: true; the input reads as it did. -/
def mountFormatsUptoRow : OpenClaim := { program := "ytkalglcbmfhdfaagreat", sum := "80971d7eb27111079ef07f66107a8d64cf8fabaa1116d37d9fa1005f25292126", func := "grommet/grommetlaw24.MountFormats", spec := "mountFormats", unfollowed := true, recurses := true, apart := false, narrowed := true }
def MountFormatsUptoSaid : Prop := mountFormatsUptoRow.holds Tryz.pinned (OpenSpec.upto mountFormatsSpec)

end Rows
end Go.Proofs.YtkalglcbmfhdfaaGreat
