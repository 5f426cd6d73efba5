/-
  No cell of these rows narrows 'for every input' (looked for: loops, veiled, ifaces, maps, wideKeys, modest, calm, conditions, laid).
  DERIVED. THE GIVEN ROWS OF THIS SEAT. 4 by the template 'for every input the law returns true; each argument reads behind the call as it read before'; 0 by the template 'total and deterministic' (their statements: YtdpkpphjpihhkaaTotals.lean).
  GIVEN WITH THE SEED: the statements are not yours to turn. If you find one false, say at which input.
  Laid BY PROGRAM, IN A SANDBOX (cutbox-rows.mjs): the forced cells as the released guide's own fill.sh prints them over the translation a31313b15eba8b5d… (all of the seat's roots in one cut). By AI agents, Wed Nov 11 2026. No macro, syntax, notation, axiom, sorry.
-/
import Derived.Test.YtdpkpphjpihhkaaChecked
import GoSem.Claim
import GoSem.ClaimJoined
import GoSem.ClaimMapViews
import Derived.JoinedTies
import Derived.KernelRfl
namespace Go.Proofs.Ytdpkpphjpihhkaa
/- THE CELL 'sum', in the pinned program and in every row, IS THE sha256 OF THE DUMP (.gsa) THAT YtdpkpphjpihhkaaProg.lean LOADS. Nothing in Lean hashes anything: it is a label: what it is worth is what the hold of that sum in a sandbox is worth. -/
noncomputable def Try.pinned : Pinned := { name := "ytdpkpphjpihhkaa", sum := "a31313b15eba8b5dea19b1856bed34960a3150f0c8602517058d637d595aadac", checked := Try.checked }
namespace Rows
def none {H : Type} : Left H := { results := [], args := [] }

/-- 'grommetlaw11.ClassPlays': WHATEVER THE INPUT: true; the input reads as it did. -/
def classPlaysSpec : ChangeSpec := { name := "classPlays", fn := fun _ => fun
  | [d1, d2, d3] => { results := [.lit (.bool true)], args := [d1, d2, d3] }
  | _ => none }
def classPlaysRow : OpenClaim := { program := "ytdpkpphjpihhkaa", sum := "a31313b15eba8b5dea19b1856bed34960a3150f0c8602517058d637d595aadac", func := "grommet/grommetlaw11.ClassPlays", spec := "classPlays", unfollowed := true, recurses := true, apart := false }
def ClassPlaysSaid : Prop := classPlaysRow.holds Try.pinned (OpenSpec.ofChange classPlaysSpec)

/-- ITS FALSE NEIGHBOUR: 'it returns false'. Refute it at one input. -/
def classPlaysWrong : ChangeSpec := { name := "classPlays", fn := fun _ => fun
  | [d1, d2, d3] => { results := [.lit (.bool false)], args := [d1, d2, d3] }
  | _ => none }
def ClassPlaysWrongFalsely : Prop := classPlaysRow.holds Try.pinned (OpenSpec.ofChange classPlaysWrong)

/-- 'grommetlaw11.ClassOnce': WHATEVER THE INPUT: true; the input reads as it did. -/
def classOnceSpec : ChangeSpec := { name := "classOnce", fn := fun _ => fun
  | [d1, d2] => { results := [.lit (.bool true)], args := [d1, d2] }
  | _ => none }
def classOnceRow : OpenClaim := { program := "ytdpkpphjpihhkaa", sum := "a31313b15eba8b5dea19b1856bed34960a3150f0c8602517058d637d595aadac", func := "grommet/grommetlaw11.ClassOnce", spec := "classOnce", unfollowed := true, recurses := true, apart := false }
def ClassOnceSaid : Prop := classOnceRow.holds Try.pinned (OpenSpec.ofChange classOnceSpec)

/-- ITS FALSE NEIGHBOUR: 'it returns false'. Refute it at one input. -/
def classOnceWrong : ChangeSpec := { name := "classOnce", fn := fun _ => fun
  | [d1, d2] => { results := [.lit (.bool false)], args := [d1, d2] }
  | _ => none }
def ClassOnceWrongFalsely : Prop := classOnceRow.holds Try.pinned (OpenSpec.ofChange classOnceWrong)

/-- 'grommetlaw11.ClassOpens': WHATEVER THE INPUT: true; the input reads as it did. -/
def classOpensSpec : ChangeSpec := { name := "classOpens", fn := fun _ => fun
  | [d1, d2, d3] => { results := [.lit (.bool true)], args := [d1, d2, d3] }
  | _ => none }
def classOpensRow : OpenClaim := { program := "ytdpkpphjpihhkaa", sum := "a31313b15eba8b5dea19b1856bed34960a3150f0c8602517058d637d595aadac", func := "grommet/grommetlaw11.ClassOpens", spec := "classOpens", unfollowed := true, recurses := true, apart := false }
def ClassOpensSaid : Prop := classOpensRow.holds Try.pinned (OpenSpec.ofChange classOpensSpec)

/-- ITS FALSE NEIGHBOUR: 'it returns false'. Refute it at one input. -/
def classOpensWrong : ChangeSpec := { name := "classOpens", fn := fun _ => fun
  | [d1, d2, d3] => { results := [.lit (.bool false)], args := [d1, d2, d3] }
  | _ => none }
def ClassOpensWrongFalsely : Prop := classOpensRow.holds Try.pinned (OpenSpec.ofChange classOpensWrong)

/-- 'grommetlaw11.ClassWindow': WHATEVER THE INPUT: true; the input reads as it did. -/
def classWindowSpec : ChangeSpec := { name := "classWindow", fn := fun _ => fun
  | [d1, d2, d3, d4] => { results := [.lit (.bool true)], args := [d1, d2, d3, d4] }
  | _ => none }
def classWindowRow : OpenClaim := { program := "ytdpkpphjpihhkaa", sum := "a31313b15eba8b5dea19b1856bed34960a3150f0c8602517058d637d595aadac", func := "grommet/grommetlaw11.ClassWindow", spec := "classWindow", unfollowed := true, recurses := true, apart := false }
def ClassWindowSaid : Prop := classWindowRow.holds Try.pinned (OpenSpec.ofChange classWindowSpec)

/-- ITS FALSE NEIGHBOUR: 'it returns false'. Refute it at one input. -/
def classWindowWrong : ChangeSpec := { name := "classWindow", fn := fun _ => fun
  | [d1, d2, d3, d4] => { results := [.lit (.bool false)], args := [d1, d2, d3, d4] }
  | _ => none }
def ClassWindowWrongFalsely : Prop := classWindowRow.holds Try.pinned (OpenSpec.ofChange classWindowWrong)

/- THE SECOND FORM. 'bulk': how many values and letters a reading holds, each counted each time it is reached (what is shared counts as often as it is met; a slice's spare places count too). A statement '..UptoSaid' is the law's where the arguments, and the package variables that the reading takes, are together of bulk at most 1048576: NARROWER than '..Said'. Prove '..Said' where nothing that the law and all that it calls make is longer than what came in: it says more and counts as full. Else prove '..UptoSaid'. A law counts once. -/
mutual
def uptoBulk {H : Type} : DataW H → Nat
  | .lit (.string bytes) => bytes.length + 1
  | .lit _ => 1
  | .nil => 1
  | .ptr d => uptoBulk d + 1
  | .slice elems spare => uptoBulkAll elems + uptoBulkAll spare + 1
  | .agg parts => uptoBulkAll parts + 1
  | .iface _ d => uptoBulk d + 1
  | .map entries => uptoBulkEntries entries + 1
  | .held _ => 1
def uptoBulkAll {H : Type} : List (DataW H) → Nat
  | [] => 0
  | d :: r => uptoBulk d + uptoBulkAll r
def uptoBulkEntries {H : Type} : List (Lit × DataW H) → Nat
  | [] => 0
  | x :: r => uptoBulkEntry x + uptoBulkEntries r
def uptoBulkEntry {H : Type} : Lit × DataW H → Nat
  | (.string bytes, d) => bytes.length + uptoBulk d + 1
  | (_, d) => uptoBulk d + 1
 end
def uptoSmall : (H : Type) → List (DataW H) → Bool := fun _ ds => decide (uptoBulkAll ds ≤ 1048576)
def OpenSpec.upto (s : _root_.Go.ChangeSpec) : _root_.Go.OpenSpec := { _root_.Go.OpenSpec.ofChange s with cond := some uptoSmall }

/-- 'grommetlaw11.ClassPlays', WHERE WHAT IT READS IS OF BULK AT MOST 1048576: true; the input reads as it did. -/
def classPlaysUptoRow : OpenClaim := { program := "ytdpkpphjpihhkaa", sum := "a31313b15eba8b5dea19b1856bed34960a3150f0c8602517058d637d595aadac", func := "grommet/grommetlaw11.ClassPlays", spec := "classPlays", unfollowed := true, recurses := true, apart := false, narrowed := true }
def ClassPlaysUptoSaid : Prop := classPlaysUptoRow.holds Try.pinned (OpenSpec.upto classPlaysSpec)

/-- 'grommetlaw11.ClassOnce', WHERE WHAT IT READS IS OF BULK AT MOST 1048576: true; the input reads as it did. -/
def classOnceUptoRow : OpenClaim := { program := "ytdpkpphjpihhkaa", sum := "a31313b15eba8b5dea19b1856bed34960a3150f0c8602517058d637d595aadac", func := "grommet/grommetlaw11.ClassOnce", spec := "classOnce", unfollowed := true, recurses := true, apart := false, narrowed := true }
def ClassOnceUptoSaid : Prop := classOnceUptoRow.holds Try.pinned (OpenSpec.upto classOnceSpec)

/-- 'grommetlaw11.ClassOpens', WHERE WHAT IT READS IS OF BULK AT MOST 1048576: true; the input reads as it did. -/
def classOpensUptoRow : OpenClaim := { program := "ytdpkpphjpihhkaa", sum := "a31313b15eba8b5dea19b1856bed34960a3150f0c8602517058d637d595aadac", func := "grommet/grommetlaw11.ClassOpens", spec := "classOpens", unfollowed := true, recurses := true, apart := false, narrowed := true }
def ClassOpensUptoSaid : Prop := classOpensUptoRow.holds Try.pinned (OpenSpec.upto classOpensSpec)

/-- 'grommetlaw11.ClassWindow', WHERE WHAT IT READS IS OF BULK AT MOST 1048576: true; the input reads as it did. -/
def classWindowUptoRow : OpenClaim := { program := "ytdpkpphjpihhkaa", sum := "a31313b15eba8b5dea19b1856bed34960a3150f0c8602517058d637d595aadac", func := "grommet/grommetlaw11.ClassWindow", spec := "classWindow", unfollowed := true, recurses := true, apart := false, narrowed := true }
def ClassWindowUptoSaid : Prop := classWindowUptoRow.holds Try.pinned (OpenSpec.upto classWindowSpec)

end Rows
end Go.Proofs.Ytdpkpphjpihhkaa
