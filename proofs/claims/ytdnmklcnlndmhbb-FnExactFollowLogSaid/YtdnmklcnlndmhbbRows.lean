/-
  No cell of these rows narrows 'for every input' (looked for: loops, veiled, ifaces, maps, wideKeys, modest, calm, conditions, laid).
  DERIVED. THE GIVEN ROWS OF THIS SEAT. 6 by the template 'for every input the law returns true; each argument reads behind the call as it read before'; 0 by the template 'total and deterministic' (their statements: YtdnmklcnlndmhbbTotals.lean).
  GIVEN WITH THE SEED: the statements are not yours to turn. If you find one false, say at which input.
  Laid BY PROGRAM, IN A SANDBOX (cutbox-rows.mjs): the forced cells as the released guide's own fill.sh prints them over the translation 2f9c74046cc6e81f… (all of the seat's roots in one cut). By AI agents, Wed Nov 11 2026. No macro, syntax, notation, axiom, sorry.
-/
import Derived.Test.YtdnmklcnlndmhbbChecked
import GoSem.Claim
import GoSem.ClaimJoined
import GoSem.ClaimMapViews
import Derived.JoinedTies
import Derived.KernelRfl
namespace Go.Proofs.Ytdnmklcnlndmhbb
/- THE CELL 'sum', in the pinned program and in every row, IS THE sha256 OF THE DUMP (.gsa) THAT YtdnmklcnlndmhbbProg.lean LOADS. Nothing in Lean hashes anything: it is a label: what it is worth is what the hold of that sum in a sandbox is worth. -/
noncomputable def Try.pinned : Pinned := { name := "ytdnmklcnlndmhbb", sum := "2f9c74046cc6e81f5b066457625a6af06a17ef47a8ca6634f98853f3abe800be", checked := Try.checked }
namespace Rows
def none {H : Type} : Left H := { results := [], args := [] }

/-- 'laws.FnExactEndOfEpoch': WHATEVER THE INPUT: true; the input reads as it did. -/
def fnExactEndOfEpochSpec : ChangeSpec := { name := "fnExactEndOfEpoch", fn := fun _ => fun
  | [d1, d2] => { results := [.lit (.bool true)], args := [d1, d2] }
  | _ => none }
def fnExactEndOfEpochRow : OpenClaim := { program := "ytdnmklcnlndmhbb", sum := "2f9c74046cc6e81f5b066457625a6af06a17ef47a8ca6634f98853f3abe800be", func := "loop.example/g00522/laws.FnExactEndOfEpoch", spec := "fnExactEndOfEpoch", apart := false }
def FnExactEndOfEpochSaid : Prop := fnExactEndOfEpochRow.holds Try.pinned (OpenSpec.ofChange fnExactEndOfEpochSpec)

/-- ITS FALSE NEIGHBOUR: 'it returns false'. Refute it at one input. -/
def fnExactEndOfEpochWrong : ChangeSpec := { name := "fnExactEndOfEpoch", fn := fun _ => fun
  | [d1, d2] => { results := [.lit (.bool false)], args := [d1, d2] }
  | _ => none }
def FnExactEndOfEpochWrongFalsely : Prop := fnExactEndOfEpochRow.holds Try.pinned (OpenSpec.ofChange fnExactEndOfEpochWrong)

/-- 'laws.FnExactPartAt': WHATEVER THE INPUT: true; the input reads as it did. -/
def fnExactPartAtSpec : ChangeSpec := { name := "fnExactPartAt", fn := fun _ => fun
  | [d1, d2] => { results := [.lit (.bool true)], args := [d1, d2] }
  | _ => none }
def fnExactPartAtRow : OpenClaim := { program := "ytdnmklcnlndmhbb", sum := "2f9c74046cc6e81f5b066457625a6af06a17ef47a8ca6634f98853f3abe800be", func := "loop.example/g00522/laws.FnExactPartAt", spec := "fnExactPartAt", apart := false }
def FnExactPartAtSaid : Prop := fnExactPartAtRow.holds Try.pinned (OpenSpec.ofChange fnExactPartAtSpec)

/-- ITS FALSE NEIGHBOUR: 'it returns false'. Refute it at one input. -/
def fnExactPartAtWrong : ChangeSpec := { name := "fnExactPartAt", fn := fun _ => fun
  | [d1, d2] => { results := [.lit (.bool false)], args := [d1, d2] }
  | _ => none }
def FnExactPartAtWrongFalsely : Prop := fnExactPartAtRow.holds Try.pinned (OpenSpec.ofChange fnExactPartAtWrong)

/-- 'laws.FnExactFindPart': WHATEVER THE INPUT: true; the input reads as it did. -/
def fnExactFindPartSpec : ChangeSpec := { name := "fnExactFindPart", fn := fun _ => fun
  | [d1, d2, d3] => { results := [.lit (.bool true)], args := [d1, d2, d3] }
  | _ => none }
def fnExactFindPartRow : OpenClaim := { program := "ytdnmklcnlndmhbb", sum := "2f9c74046cc6e81f5b066457625a6af06a17ef47a8ca6634f98853f3abe800be", func := "loop.example/g00522/laws.FnExactFindPart", spec := "fnExactFindPart", apart := false }
def FnExactFindPartSaid : Prop := fnExactFindPartRow.holds Try.pinned (OpenSpec.ofChange fnExactFindPartSpec)

/-- ITS FALSE NEIGHBOUR: 'it returns false'. Refute it at one input. -/
def fnExactFindPartWrong : ChangeSpec := { name := "fnExactFindPart", fn := fun _ => fun
  | [d1, d2, d3] => { results := [.lit (.bool false)], args := [d1, d2, d3] }
  | _ => none }
def FnExactFindPartWrongFalsely : Prop := fnExactFindPartRow.holds Try.pinned (OpenSpec.ofChange fnExactFindPartWrong)

/-- 'laws.FnExactFollowLog': WHATEVER THE INPUT: true; the input reads as it did. -/
def fnExactFollowLogSpec : ChangeSpec := { name := "fnExactFollowLog", fn := fun _ => fun
  | [d1, d2] => { results := [.lit (.bool true)], args := [d1, d2] }
  | _ => none }
def fnExactFollowLogRow : OpenClaim := { program := "ytdnmklcnlndmhbb", sum := "2f9c74046cc6e81f5b066457625a6af06a17ef47a8ca6634f98853f3abe800be", func := "loop.example/g00522/laws.FnExactFollowLog", spec := "fnExactFollowLog", apart := false }
def FnExactFollowLogSaid : Prop := fnExactFollowLogRow.holds Try.pinned (OpenSpec.ofChange fnExactFollowLogSpec)

/-- ITS FALSE NEIGHBOUR: 'it returns false'. Refute it at one input. -/
def fnExactFollowLogWrong : ChangeSpec := { name := "fnExactFollowLog", fn := fun _ => fun
  | [d1, d2] => { results := [.lit (.bool false)], args := [d1, d2] }
  | _ => none }
def FnExactFollowLogWrongFalsely : Prop := fnExactFollowLogRow.holds Try.pinned (OpenSpec.ofChange fnExactFollowLogWrong)

/-- 'laws.FnExactIsNewer': WHATEVER THE INPUT: true; the input reads as it did. -/
def fnExactIsNewerSpec : ChangeSpec := { name := "fnExactIsNewer", fn := fun _ => fun
  | [d1, d2] => { results := [.lit (.bool true)], args := [d1, d2] }
  | _ => none }
def fnExactIsNewerRow : OpenClaim := { program := "ytdnmklcnlndmhbb", sum := "2f9c74046cc6e81f5b066457625a6af06a17ef47a8ca6634f98853f3abe800be", func := "loop.example/g00522/laws.FnExactIsNewer", spec := "fnExactIsNewer", apart := false }
def FnExactIsNewerSaid : Prop := fnExactIsNewerRow.holds Try.pinned (OpenSpec.ofChange fnExactIsNewerSpec)

/-- ITS FALSE NEIGHBOUR: 'it returns false'. Refute it at one input. -/
def fnExactIsNewerWrong : ChangeSpec := { name := "fnExactIsNewer", fn := fun _ => fun
  | [d1, d2] => { results := [.lit (.bool false)], args := [d1, d2] }
  | _ => none }
def FnExactIsNewerWrongFalsely : Prop := fnExactIsNewerRow.holds Try.pinned (OpenSpec.ofChange fnExactIsNewerWrong)

/-- 'laws.FnExactMatchLogs': WHATEVER THE INPUT: true; the input reads as it did. -/
def fnExactMatchLogsSpec : ChangeSpec := { name := "fnExactMatchLogs", fn := fun _ => fun
  | [d1, d2] => { results := [.lit (.bool true)], args := [d1, d2] }
  | _ => none }
def fnExactMatchLogsRow : OpenClaim := { program := "ytdnmklcnlndmhbb", sum := "2f9c74046cc6e81f5b066457625a6af06a17ef47a8ca6634f98853f3abe800be", func := "loop.example/g00522/laws.FnExactMatchLogs", spec := "fnExactMatchLogs", apart := false }
def FnExactMatchLogsSaid : Prop := fnExactMatchLogsRow.holds Try.pinned (OpenSpec.ofChange fnExactMatchLogsSpec)

/-- ITS FALSE NEIGHBOUR: 'it returns false'. Refute it at one input. -/
def fnExactMatchLogsWrong : ChangeSpec := { name := "fnExactMatchLogs", fn := fun _ => fun
  | [d1, d2] => { results := [.lit (.bool false)], args := [d1, d2] }
  | _ => none }
def FnExactMatchLogsWrongFalsely : Prop := fnExactMatchLogsRow.holds Try.pinned (OpenSpec.ofChange fnExactMatchLogsWrong)

/- THE SECOND FORM. 'bulk': how many values and letters a reading holds, each counted each time it is reached (what is shared counts as often as it is met; a slice's spare places count too). A statement '..UptoSaid' is the law's where the arguments, and the package variables that the reading takes, are together of bulk at most 1048576: NARROWER than '..Said'. Prove '..Said' where nothing that the law and all that it calls make is longer than what came in: it says more and counts as full. Else prove '..UptoSaid'. A law counts once. -/
mutual
def uptoBulk {H : Type} : DataW H → Nat
  | .lit (.string bytes) => bytes.length + 1
  | .lit _ => 1
  | .nil => 1
  | .ptr d => uptoBulk d + 1
  | .slice elems spare => uptoBulkAll elems + uptoBulkAll spare + 1
  | .agg parts => uptoBulkAll parts + 1
  | .iface _ d => uptoBulk d + 1
  | .map entries => uptoBulkEntries entries + 1
  | .held _ => 1
def uptoBulkAll {H : Type} : List (DataW H) → Nat
  | [] => 0
  | d :: r => uptoBulk d + uptoBulkAll r
def uptoBulkEntries {H : Type} : List (Lit × DataW H) → Nat
  | [] => 0
  | x :: r => uptoBulkEntry x + uptoBulkEntries r
def uptoBulkEntry {H : Type} : Lit × DataW H → Nat
  | (.string bytes, d) => bytes.length + uptoBulk d + 1
  | (_, d) => uptoBulk d + 1
 end
def uptoSmall : (H : Type) → List (DataW H) → Bool := fun _ ds => decide (uptoBulkAll ds ≤ 1048576)
def OpenSpec.upto (s : _root_.Go.ChangeSpec) : _root_.Go.OpenSpec := { _root_.Go.OpenSpec.ofChange s with cond := some uptoSmall }

/-- 'laws.FnExactEndOfEpoch', WHERE WHAT IT READS IS OF BULK AT MOST 1048576: true; the input reads as it did. -/
def fnExactEndOfEpochUptoRow : OpenClaim := { program := "ytdnmklcnlndmhbb", sum := "2f9c74046cc6e81f5b066457625a6af06a17ef47a8ca6634f98853f3abe800be", func := "loop.example/g00522/laws.FnExactEndOfEpoch", spec := "fnExactEndOfEpoch", apart := false, narrowed := true }
def FnExactEndOfEpochUptoSaid : Prop := fnExactEndOfEpochUptoRow.holds Try.pinned (OpenSpec.upto fnExactEndOfEpochSpec)

/-- 'laws.FnExactPartAt', WHERE WHAT IT READS IS OF BULK AT MOST 1048576: true; the input reads as it did. -/
def fnExactPartAtUptoRow : OpenClaim := { program := "ytdnmklcnlndmhbb", sum := "2f9c74046cc6e81f5b066457625a6af06a17ef47a8ca6634f98853f3abe800be", func := "loop.example/g00522/laws.FnExactPartAt", spec := "fnExactPartAt", apart := false, narrowed := true }
def FnExactPartAtUptoSaid : Prop := fnExactPartAtUptoRow.holds Try.pinned (OpenSpec.upto fnExactPartAtSpec)

/-- 'laws.FnExactFindPart', WHERE WHAT IT READS IS OF BULK AT MOST 1048576: true; the input reads as it did. -/
def fnExactFindPartUptoRow : OpenClaim := { program := "ytdnmklcnlndmhbb", sum := "2f9c74046cc6e81f5b066457625a6af06a17ef47a8ca6634f98853f3abe800be", func := "loop.example/g00522/laws.FnExactFindPart", spec := "fnExactFindPart", apart := false, narrowed := true }
def FnExactFindPartUptoSaid : Prop := fnExactFindPartUptoRow.holds Try.pinned (OpenSpec.upto fnExactFindPartSpec)

/-- 'laws.FnExactFollowLog', WHERE WHAT IT READS IS OF BULK AT MOST 1048576: true; the input reads as it did. -/
def fnExactFollowLogUptoRow : OpenClaim := { program := "ytdnmklcnlndmhbb", sum := "2f9c74046cc6e81f5b066457625a6af06a17ef47a8ca6634f98853f3abe800be", func := "loop.example/g00522/laws.FnExactFollowLog", spec := "fnExactFollowLog", apart := false, narrowed := true }
def FnExactFollowLogUptoSaid : Prop := fnExactFollowLogUptoRow.holds Try.pinned (OpenSpec.upto fnExactFollowLogSpec)

/-- 'laws.FnExactIsNewer', WHERE WHAT IT READS IS OF BULK AT MOST 1048576: true; the input reads as it did. -/
def fnExactIsNewerUptoRow : OpenClaim := { program := "ytdnmklcnlndmhbb", sum := "2f9c74046cc6e81f5b066457625a6af06a17ef47a8ca6634f98853f3abe800be", func := "loop.example/g00522/laws.FnExactIsNewer", spec := "fnExactIsNewer", apart := false, narrowed := true }
def FnExactIsNewerUptoSaid : Prop := fnExactIsNewerUptoRow.holds Try.pinned (OpenSpec.upto fnExactIsNewerSpec)

/-- 'laws.FnExactMatchLogs', WHERE WHAT IT READS IS OF BULK AT MOST 1048576: true; the input reads as it did. -/
def fnExactMatchLogsUptoRow : OpenClaim := { program := "ytdnmklcnlndmhbb", sum := "2f9c74046cc6e81f5b066457625a6af06a17ef47a8ca6634f98853f3abe800be", func := "loop.example/g00522/laws.FnExactMatchLogs", spec := "fnExactMatchLogs", apart := false, narrowed := true }
def FnExactMatchLogsUptoSaid : Prop := fnExactMatchLogsUptoRow.holds Try.pinned (OpenSpec.upto fnExactMatchLogsSpec)

end Rows
end Go.Proofs.Ytdnmklcnlndmhbb
