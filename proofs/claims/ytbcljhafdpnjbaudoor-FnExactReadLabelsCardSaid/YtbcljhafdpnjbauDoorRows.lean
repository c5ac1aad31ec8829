/-
  NARROWER THAN 'FOR EVERY INPUT', by the rows' own cells (each row's printed sentence says how): FnExactRangeOf: laid · FnExactJoinChunks: laid · FnExactChunkSize: laid · FnExactReadLabels: laid.
  DERIVED. THE GIVEN ROWS OF THIS SEAT. 4 by the template 'for every input the law returns true; each argument reads behind the call as it read before'; 0 by the template 'total and deterministic' (their statements: YtbcljhafdpnjbauDoorTotals.lean).
  GIVEN WITH THE SEED: the statements are not yours to turn. If you find one false, say at which input.
  Laid BY PROGRAM, IN A SANDBOX (cutbox-rows.mjs): the forced cells as the released guide's own fill.sh prints them over the translation 37664a91e5ddfa09… (all of the seat's roots in one cut). By AI agents, Wed Nov 11 2026. No macro, syntax, notation, axiom, sorry.
-/
import Derived.Test.YtbcljhafdpnjbauDoorChecked
import GoSem.PinnedTables
import GoSem.Claim
import GoSem.ClaimJoined
import GoSem.ClaimMapViews
import Derived.JoinedTies
import Derived.KernelRfl
namespace Go.Proofs.YtbcljhafdpnjbauDoor
/- THE CELL 'sum', in the pinned program and in every row, IS THE sha256 OF THE DUMP (.gsa) THAT YtbcljhafdpnjbauDoorProg.lean LOADS. Nothing in Lean hashes anything: it is a label: what it is worth is what the hold of that sum in a sandbox is worth. -/
noncomputable def Tryd.pinned : Pinned := { name := "ytbcljhafdpnjbaudoor", sum := "37664a91e5ddfa091a4758f603a2d29e9a689a7d87e1aaccc5096d014e628721", checked := Tryd.checked }
namespace Rows
def none {H : Type} : Left H := { results := [], args := [] }

/- WHAT THE LISTED PACKAGE-LEVEL VARIABLES READ AS WHEN THE CALL BEGINS. Each datum BY PROGRAM (the guide's laid-datum.mjs) off the statement by which the dump's own 'gosem.cut.vars' lays the variable. In a bare row this is a premise. The card (YtbcljhafdpnjbauDoorCards.lean) ties it to the program's text. -/
def laid_loop_example_g00522_impl_digitWorth {H : Type} : DataW H := .agg [.lit (.int .i64 1), .lit (.int .i64 128), .lit (.int .i64 16384), .lit (.int .i64 2097152), .lit (.int .i64 268435456), .lit (.int .i64 34359738368)]
def laid_unicode_utf8_acceptRanges {H : Type} : DataW H := .agg [.agg [.lit (.int .u8 128), .lit (.int .u8 191)], .agg [.lit (.int .u8 160), .lit (.int .u8 191)], .agg [.lit (.int .u8 128), .lit (.int .u8 159)], .agg [.lit (.int .u8 144), .lit (.int .u8 191)], .agg [.lit (.int .u8 128), .lit (.int .u8 143)], .agg [.lit (.int .u8 0), .lit (.int .u8 0)], .agg [.lit (.int .u8 0), .lit (.int .u8 0)], .agg [.lit (.int .u8 0), .lit (.int .u8 0)], .agg [.lit (.int .u8 0), .lit (.int .u8 0)], .agg [.lit (.int .u8 0), .lit (.int .u8 0)], .agg [.lit (.int .u8 0), .lit (.int .u8 0)], .agg [.lit (.int .u8 0), .lit (.int .u8 0)], .agg [.lit (.int .u8 0), .lit (.int .u8 0)], .agg [.lit (.int .u8 0), .lit (.int .u8 0)], .agg [.lit (.int .u8 0), .lit (.int .u8 0)], .agg [.lit (.int .u8 0), .lit (.int .u8 0)]]
/-- One of Go's own tables, pinned by name: the form's constant. -/
def laid_unicode_utf8_first : DataW Unit := Go.Pinned.utf8First

/-- 'laws.FnExactRangeOf': WHATEVER THE INPUT: true; the input reads as it did. -/
def fnExactRangeOfSpec : ChangeSpec := { name := "fnExactRangeOf", vars := ["loop.example/g00522/impl.digitWorth"], fn := fun _ => fun
  | [d1, d2, d3, g1] => { results := [.lit (.bool true)], args := [d1, d2, d3], vars := [g1] }
  | _ => none }
def fnExactRangeOfRow : OpenClaim := { program := "ytbcljhafdpnjbaudoor", sum := "37664a91e5ddfa091a4758f603a2d29e9a689a7d87e1aaccc5096d014e628721", func := "loop.example/g00522/laws.FnExactRangeOf", spec := "fnExactRangeOf", unfollowed := true, recurses := true, named := ["loop.example/g00522/impl.digitWorth"], apart := false, laid := [("loop.example/g00522/impl.digitWorth", laid_loop_example_g00522_impl_digitWorth)] }
def FnExactRangeOfSaid : Prop := fnExactRangeOfRow.holds Tryd.pinned (OpenSpec.ofChange fnExactRangeOfSpec)

/-- ITS FALSE NEIGHBOUR: 'it returns false'. Refute it at one input. -/
def fnExactRangeOfWrong : ChangeSpec := { name := "fnExactRangeOf", vars := ["loop.example/g00522/impl.digitWorth"], fn := fun _ => fun
  | [d1, d2, d3, g1] => { results := [.lit (.bool false)], args := [d1, d2, d3], vars := [g1] }
  | _ => none }
def FnExactRangeOfWrongFalsely : Prop := fnExactRangeOfRow.holds Tryd.pinned (OpenSpec.ofChange fnExactRangeOfWrong)

/-- 'laws.FnExactJoinChunks': WHATEVER THE INPUT: true; the input reads as it did. -/
def fnExactJoinChunksSpec : ChangeSpec := { name := "fnExactJoinChunks", vars := ["loop.example/g00522/impl.digitWorth"], fn := fun _ => fun
  | [d1, d2, g1] => { results := [.lit (.bool true)], args := [d1, d2], vars := [g1] }
  | _ => none }
def fnExactJoinChunksRow : OpenClaim := { program := "ytbcljhafdpnjbaudoor", sum := "37664a91e5ddfa091a4758f603a2d29e9a689a7d87e1aaccc5096d014e628721", func := "loop.example/g00522/laws.FnExactJoinChunks", spec := "fnExactJoinChunks", inPlace := ["internal/abi.NoEscape"], unfollowed := true, recurses := true, named := ["loop.example/g00522/impl.digitWorth"], apart := false, laid := [("loop.example/g00522/impl.digitWorth", laid_loop_example_g00522_impl_digitWorth)] }
def FnExactJoinChunksSaid : Prop := fnExactJoinChunksRow.holds Tryd.pinned (OpenSpec.ofChange fnExactJoinChunksSpec)

/-- ITS FALSE NEIGHBOUR: 'it returns false'. Refute it at one input. -/
def fnExactJoinChunksWrong : ChangeSpec := { name := "fnExactJoinChunks", vars := ["loop.example/g00522/impl.digitWorth"], fn := fun _ => fun
  | [d1, d2, g1] => { results := [.lit (.bool false)], args := [d1, d2], vars := [g1] }
  | _ => none }
def FnExactJoinChunksWrongFalsely : Prop := fnExactJoinChunksRow.holds Tryd.pinned (OpenSpec.ofChange fnExactJoinChunksWrong)

/-- 'laws.FnExactChunkSize': WHATEVER THE INPUT: true; the input reads as it did. -/
def fnExactChunkSizeSpec : ChangeSpec := { name := "fnExactChunkSize", vars := ["loop.example/g00522/impl.digitWorth"], fn := fun _ => fun
  | [d, g1] => { results := [.lit (.bool true)], args := [d], vars := [g1] }
  | _ => none }
def fnExactChunkSizeRow : OpenClaim := { program := "ytbcljhafdpnjbaudoor", sum := "37664a91e5ddfa091a4758f603a2d29e9a689a7d87e1aaccc5096d014e628721", func := "loop.example/g00522/laws.FnExactChunkSize", spec := "fnExactChunkSize", unfollowed := true, recurses := true, named := ["loop.example/g00522/impl.digitWorth"], apart := false, laid := [("loop.example/g00522/impl.digitWorth", laid_loop_example_g00522_impl_digitWorth)] }
def FnExactChunkSizeSaid : Prop := fnExactChunkSizeRow.holds Tryd.pinned (OpenSpec.ofChange fnExactChunkSizeSpec)

/-- ITS FALSE NEIGHBOUR: 'it returns false'. Refute it at one input. -/
def fnExactChunkSizeWrong : ChangeSpec := { name := "fnExactChunkSize", vars := ["loop.example/g00522/impl.digitWorth"], fn := fun _ => fun
  | [d, g1] => { results := [.lit (.bool false)], args := [d], vars := [g1] }
  | _ => none }
def FnExactChunkSizeWrongFalsely : Prop := fnExactChunkSizeRow.holds Tryd.pinned (OpenSpec.ofChange fnExactChunkSizeWrong)

/-- 'laws.FnExactReadLabels': WHATEVER THE INPUT: true; the input reads as it did. -/
def fnExactReadLabelsSpec : ChangeSpec := { name := "fnExactReadLabels", fn := fun _ => fun
  | [d] => { results := [.lit (.bool true)], args := [d] }
  | _ => none }
def fnExactReadLabelsRow : OpenClaim := { program := "ytbcljhafdpnjbaudoor", sum := "37664a91e5ddfa091a4758f603a2d29e9a689a7d87e1aaccc5096d014e628721", func := "loop.example/g00522/laws.FnExactReadLabels", spec := "fnExactReadLabels", inPlace := ["internal/bytealg.IndexByteString", "internal/bytealg.IndexString"], unfollowed := true, recurses := true, named := ["unicode/utf8.first", "unicode/utf8.acceptRanges", "internal/bytealg.MaxLen"], apart := false, laid := [("unicode/utf8.acceptRanges", laid_unicode_utf8_acceptRanges), ("unicode/utf8.first", laid_unicode_utf8_first)] }
def FnExactReadLabelsSaid : Prop := fnExactReadLabelsRow.holds Tryd.pinned (OpenSpec.ofChange fnExactReadLabelsSpec)

/-- ITS FALSE NEIGHBOUR: 'it returns false'. Refute it at one input. -/
def fnExactReadLabelsWrong : ChangeSpec := { name := "fnExactReadLabels", fn := fun _ => fun
  | [d] => { results := [.lit (.bool false)], args := [d] }
  | _ => none }
def FnExactReadLabelsWrongFalsely : Prop := fnExactReadLabelsRow.holds Tryd.pinned (OpenSpec.ofChange fnExactReadLabelsWrong)

/- THE SECOND FORM. 'bulk': how many values and letters a reading holds, each counted each time it is reached (what is shared counts as often as it is met; a slice's spare places count too). A statement '..UptoSaid' is the law's where the arguments, and the package variables that the reading takes, are together of bulk at most 1048576: NARROWER than '..Said'. Prove '..Said' where nothing that the law and all that it calls make is longer than what came in: it says more and counts as full. Else prove '..UptoSaid'. A law counts once. -/
mutual
def uptoBulk {H : Type} : DataW H → Nat
  | .lit (.string bytes) => bytes.length + 1
  | .lit _ => 1
  | .nil => 1
  | .ptr d => uptoBulk d + 1
  | .slice elems spare => uptoBulkAll elems + uptoBulkAll spare + 1
  | .agg parts => uptoBulkAll parts + 1
  | .iface _ d => uptoBulk d + 1
  | .map entries => uptoBulkEntries entries + 1
  | .held _ => 1
def uptoBulkAll {H : Type} : List (DataW H) → Nat
  | [] => 0
  | d :: r => uptoBulk d + uptoBulkAll r
def uptoBulkEntries {H : Type} : List (Lit × DataW H) → Nat
  | [] => 0
  | x :: r => uptoBulkEntry x + uptoBulkEntries r
def uptoBulkEntry {H : Type} : Lit × DataW H → Nat
  | (.string bytes, d) => bytes.length + uptoBulk d + 1
  | (_, d) => uptoBulk d + 1
 end
def uptoSmall : (H : Type) → List (DataW H) → Bool := fun _ ds => decide (uptoBulkAll ds ≤ 1048576)
def OpenSpec.upto (s : _root_.Go.ChangeSpec) : _root_.Go.OpenSpec := { _root_.Go.OpenSpec.ofChange s with cond := some uptoSmall }

/-- 'laws.FnExactRangeOf', WHERE WHAT IT READS IS OF BULK AT MOST 1048576: true; the input reads as it did. -/
def fnExactRangeOfUptoRow : OpenClaim := { program := "ytbcljhafdpnjbaudoor", sum := "37664a91e5ddfa091a4758f603a2d29e9a689a7d87e1aaccc5096d014e628721", func := "loop.example/g00522/laws.FnExactRangeOf", spec := "fnExactRangeOf", unfollowed := true, recurses := true, named := ["loop.example/g00522/impl.digitWorth"], apart := false, laid := [("loop.example/g00522/impl.digitWorth", laid_loop_example_g00522_impl_digitWorth)], narrowed := true }
def FnExactRangeOfUptoSaid : Prop := fnExactRangeOfUptoRow.holds Tryd.pinned (OpenSpec.upto fnExactRangeOfSpec)

/-- 'laws.FnExactJoinChunks', WHERE WHAT IT READS IS OF BULK AT MOST 1048576: true; the input reads as it did. -/
def fnExactJoinChunksUptoRow : OpenClaim := { program := "ytbcljhafdpnjbaudoor", sum := "37664a91e5ddfa091a4758f603a2d29e9a689a7d87e1aaccc5096d014e628721", func := "loop.example/g00522/laws.FnExactJoinChunks", spec := "fnExactJoinChunks", inPlace := ["internal/abi.NoEscape"], unfollowed := true, recurses := true, named := ["loop.example/g00522/impl.digitWorth"], apart := false, laid := [("loop.example/g00522/impl.digitWorth", laid_loop_example_g00522_impl_digitWorth)], narrowed := true }
def FnExactJoinChunksUptoSaid : Prop := fnExactJoinChunksUptoRow.holds Tryd.pinned (OpenSpec.upto fnExactJoinChunksSpec)

/-- 'laws.FnExactChunkSize', WHERE WHAT IT READS IS OF BULK AT MOST 1048576: true; the input reads as it did. -/
def fnExactChunkSizeUptoRow : OpenClaim := { program := "ytbcljhafdpnjbaudoor", sum := "37664a91e5ddfa091a4758f603a2d29e9a689a7d87e1aaccc5096d014e628721", func := "loop.example/g00522/laws.FnExactChunkSize", spec := "fnExactChunkSize", unfollowed := true, recurses := true, named := ["loop.example/g00522/impl.digitWorth"], apart := false, laid := [("loop.example/g00522/impl.digitWorth", laid_loop_example_g00522_impl_digitWorth)], narrowed := true }
def FnExactChunkSizeUptoSaid : Prop := fnExactChunkSizeUptoRow.holds Tryd.pinned (OpenSpec.upto fnExactChunkSizeSpec)

/-- 'laws.FnExactReadLabels', WHERE WHAT IT READS IS OF BULK AT MOST 1048576: true; the input reads as it did. -/
def fnExactReadLabelsUptoRow : OpenClaim := { program := "ytbcljhafdpnjbaudoor", sum := "37664a91e5ddfa091a4758f603a2d29e9a689a7d87e1aaccc5096d014e628721", func := "loop.example/g00522/laws.FnExactReadLabels", spec := "fnExactReadLabels", inPlace := ["internal/bytealg.IndexByteString", "internal/bytealg.IndexString"], unfollowed := true, recurses := true, named := ["unicode/utf8.first", "unicode/utf8.acceptRanges", "internal/bytealg.MaxLen"], apart := false, laid := [("unicode/utf8.acceptRanges", laid_unicode_utf8_acceptRanges), ("unicode/utf8.first", laid_unicode_utf8_first)], narrowed := true }
def FnExactReadLabelsUptoSaid : Prop := fnExactReadLabelsUptoRow.holds Tryd.pinned (OpenSpec.upto fnExactReadLabelsSpec)

end Rows
end Go.Proofs.YtbcljhafdpnjbauDoor
