/-
  No cell of these rows narrows 'for every input' (looked for: loops, veiled, ifaces, maps, wideKeys, modest, calm, conditions, laid).
  DERIVED. THE GIVEN ROWS OF THIS SEAT. 6 by the template 'for every input the law returns true; each argument reads behind the call as it read before'; 0 by the template 'total and deterministic' (their statements: YtohcjafklfemfalTotals.lean).
  GIVEN WITH THE SEED: the statements are not yours to turn. If you find one false, say at which input.
  Laid BY PROGRAM, IN A SANDBOX (cutbox-rows.mjs): the forced cells as the released guide's own fill.sh prints them over the translation 7de8ce26649a55cd… (all of the seat's roots in one cut). By AI agents, Wed Nov 11 2026. No macro, syntax, notation, axiom, sorry.
-/
import Derived.Test.YtohcjafklfemfalChecked
import GoSem.Claim
import GoSem.ClaimJoined
import GoSem.ClaimMapViews
import Derived.JoinedTies
import Derived.KernelRfl
namespace Go.Proofs.Ytohcjafklfemfal
/- THE CELL 'sum', in the pinned program and in every row, IS THE sha256 OF THE DUMP (.gsa) THAT YtohcjafklfemfalProg.lean LOADS. Nothing in Lean hashes anything: it is a label: what it is worth is what the hold of that sum in a sandbox is worth. -/
noncomputable def Try.pinned : Pinned := { name := "ytohcjafklfemfal", sum := "7de8ce26649a55cdf6afaf57fe360a464f9bdaae4a511328774d57e8221cdc52", checked := Try.checked }
namespace Rows
def none {H : Type} : Left H := { results := [], args := [] }

/-- 'laws.FnExactRowOf': WHATEVER THE INPUT: true; the input reads as it did. -/
def fnExactRowOfSpec : ChangeSpec := { name := "fnExactRowOf", fn := fun _ => fun
  | [d1, d2] => { results := [.lit (.bool true)], args := [d1, d2] }
  | _ => none }
def fnExactRowOfRow : OpenClaim := { program := "ytohcjafklfemfal", sum := "7de8ce26649a55cdf6afaf57fe360a464f9bdaae4a511328774d57e8221cdc52", func := "loop.example/g00522/laws.FnExactRowOf", spec := "fnExactRowOf", unfollowed := true, recurses := true, apart := false }
def FnExactRowOfSaid : Prop := fnExactRowOfRow.holds Try.pinned (OpenSpec.ofChange fnExactRowOfSpec)

/-- ITS FALSE NEIGHBOUR: 'it returns false'. Refute it at one input. -/
def fnExactRowOfWrong : ChangeSpec := { name := "fnExactRowOf", fn := fun _ => fun
  | [d1, d2] => { results := [.lit (.bool false)], args := [d1, d2] }
  | _ => none }
def FnExactRowOfWrongFalsely : Prop := fnExactRowOfRow.holds Try.pinned (OpenSpec.ofChange fnExactRowOfWrong)

/-- 'laws.FnExactTrimHead': WHATEVER THE INPUT: true; the input reads as it did. -/
def fnExactTrimHeadSpec : ChangeSpec := { name := "fnExactTrimHead", fn := fun _ => fun
  | [d1, d2] => { results := [.lit (.bool true)], args := [d1, d2] }
  | _ => none }
def fnExactTrimHeadRow : OpenClaim := { program := "ytohcjafklfemfal", sum := "7de8ce26649a55cdf6afaf57fe360a464f9bdaae4a511328774d57e8221cdc52", func := "loop.example/g00522/laws.FnExactTrimHead", spec := "fnExactTrimHead", unfollowed := true, recurses := true, apart := false }
def FnExactTrimHeadSaid : Prop := fnExactTrimHeadRow.holds Try.pinned (OpenSpec.ofChange fnExactTrimHeadSpec)

/-- ITS FALSE NEIGHBOUR: 'it returns false'. Refute it at one input. -/
def fnExactTrimHeadWrong : ChangeSpec := { name := "fnExactTrimHead", fn := fun _ => fun
  | [d1, d2] => { results := [.lit (.bool false)], args := [d1, d2] }
  | _ => none }
def FnExactTrimHeadWrongFalsely : Prop := fnExactTrimHeadRow.holds Try.pinned (OpenSpec.ofChange fnExactTrimHeadWrong)

/-- 'laws.FnExactGoodItems': WHATEVER THE INPUT: true; the input reads as it did. -/
def fnExactGoodItemsSpec : ChangeSpec := { name := "fnExactGoodItems", fn := fun _ => fun
  | [d] => { results := [.lit (.bool true)], args := [d] }
  | _ => none }
def fnExactGoodItemsRow : OpenClaim := { program := "ytohcjafklfemfal", sum := "7de8ce26649a55cdf6afaf57fe360a464f9bdaae4a511328774d57e8221cdc52", func := "loop.example/g00522/laws.FnExactGoodItems", spec := "fnExactGoodItems", unfollowed := true, recurses := true, apart := false }
def FnExactGoodItemsSaid : Prop := fnExactGoodItemsRow.holds Try.pinned (OpenSpec.ofChange fnExactGoodItemsSpec)

/-- ITS FALSE NEIGHBOUR: 'it returns false'. Refute it at one input. -/
def fnExactGoodItemsWrong : ChangeSpec := { name := "fnExactGoodItems", fn := fun _ => fun
  | [d] => { results := [.lit (.bool false)], args := [d] }
  | _ => none }
def FnExactGoodItemsWrongFalsely : Prop := fnExactGoodItemsRow.holds Try.pinned (OpenSpec.ofChange fnExactGoodItemsWrong)

/-- 'laws.FnExactKeepLabels': WHATEVER THE INPUT: true; the input reads as it did. -/
def fnExactKeepLabelsSpec : ChangeSpec := { name := "fnExactKeepLabels", fn := fun _ => fun
  | [d1, d2] => { results := [.lit (.bool true)], args := [d1, d2] }
  | _ => none }
def fnExactKeepLabelsRow : OpenClaim := { program := "ytohcjafklfemfal", sum := "7de8ce26649a55cdf6afaf57fe360a464f9bdaae4a511328774d57e8221cdc52", func := "loop.example/g00522/laws.FnExactKeepLabels", spec := "fnExactKeepLabels", unfollowed := true, recurses := true, apart := false }
def FnExactKeepLabelsSaid : Prop := fnExactKeepLabelsRow.holds Try.pinned (OpenSpec.ofChange fnExactKeepLabelsSpec)

/-- ITS FALSE NEIGHBOUR: 'it returns false'. Refute it at one input. -/
def fnExactKeepLabelsWrong : ChangeSpec := { name := "fnExactKeepLabels", fn := fun _ => fun
  | [d1, d2] => { results := [.lit (.bool false)], args := [d1, d2] }
  | _ => none }
def FnExactKeepLabelsWrongFalsely : Prop := fnExactKeepLabelsRow.holds Try.pinned (OpenSpec.ofChange fnExactKeepLabelsWrong)

/-- 'laws.FnExactTotalsBy': WHATEVER THE INPUT: true; the input reads as it did. -/
def fnExactTotalsBySpec : ChangeSpec := { name := "fnExactTotalsBy", fn := fun _ => fun
  | [d1, d2] => { results := [.lit (.bool true)], args := [d1, d2] }
  | _ => none }
def fnExactTotalsByRow : OpenClaim := { program := "ytohcjafklfemfal", sum := "7de8ce26649a55cdf6afaf57fe360a464f9bdaae4a511328774d57e8221cdc52", func := "loop.example/g00522/laws.FnExactTotalsBy", spec := "fnExactTotalsBy", inPlace := ["internal/abi.NoEscape", "internal/bytealg.MakeNoZero"], unfollowed := true, recurses := true, apart := false }
def FnExactTotalsBySaid : Prop := fnExactTotalsByRow.holds Try.pinned (OpenSpec.ofChange fnExactTotalsBySpec)

/-- ITS FALSE NEIGHBOUR: 'it returns false'. Refute it at one input. -/
def fnExactTotalsByWrong : ChangeSpec := { name := "fnExactTotalsBy", fn := fun _ => fun
  | [d1, d2] => { results := [.lit (.bool false)], args := [d1, d2] }
  | _ => none }
def FnExactTotalsByWrongFalsely : Prop := fnExactTotalsByRow.holds Try.pinned (OpenSpec.ofChange fnExactTotalsByWrong)

/-- 'laws.FnExactMergeTotals': WHATEVER THE INPUT: true; the input reads as it did. -/
def fnExactMergeTotalsSpec : ChangeSpec := { name := "fnExactMergeTotals", fn := fun _ => fun
  | [d1, d2] => { results := [.lit (.bool true)], args := [d1, d2] }
  | _ => none }
def fnExactMergeTotalsRow : OpenClaim := { program := "ytohcjafklfemfal", sum := "7de8ce26649a55cdf6afaf57fe360a464f9bdaae4a511328774d57e8221cdc52", func := "loop.example/g00522/laws.FnExactMergeTotals", spec := "fnExactMergeTotals", inPlace := ["internal/abi.NoEscape", "internal/bytealg.MakeNoZero"], unfollowed := true, recurses := true, apart := false }
def FnExactMergeTotalsSaid : Prop := fnExactMergeTotalsRow.holds Try.pinned (OpenSpec.ofChange fnExactMergeTotalsSpec)

/-- ITS FALSE NEIGHBOUR: 'it returns false'. Refute it at one input. -/
def fnExactMergeTotalsWrong : ChangeSpec := { name := "fnExactMergeTotals", fn := fun _ => fun
  | [d1, d2] => { results := [.lit (.bool false)], args := [d1, d2] }
  | _ => none }
def FnExactMergeTotalsWrongFalsely : Prop := fnExactMergeTotalsRow.holds Try.pinned (OpenSpec.ofChange fnExactMergeTotalsWrong)

/- THE SECOND FORM. 'bulk': how many values and letters a reading holds, each counted each time it is reached (what is shared counts as often as it is met; a slice's spare places count too). A statement '..UptoSaid' is the law's where the arguments, and the package variables that the reading takes, are together of bulk at most 1048576: NARROWER than '..Said'. Prove '..Said' where nothing that the law and all that it calls make is longer than what came in: it says more and counts as full. Else prove '..UptoSaid'. A law counts once. -/
mutual
def uptoBulk {H : Type} : DataW H → Nat
  | .lit (.string bytes) => bytes.length + 1
  | .lit _ => 1
  | .nil => 1
  | .ptr d => uptoBulk d + 1
  | .slice elems spare => uptoBulkAll elems + uptoBulkAll spare + 1
  | .agg parts => uptoBulkAll parts + 1
  | .iface _ d => uptoBulk d + 1
  | .map entries => uptoBulkEntries entries + 1
  | .held _ => 1
def uptoBulkAll {H : Type} : List (DataW H) → Nat
  | [] => 0
  | d :: r => uptoBulk d + uptoBulkAll r
def uptoBulkEntries {H : Type} : List (Lit × DataW H) → Nat
  | [] => 0
  | x :: r => uptoBulkEntry x + uptoBulkEntries r
def uptoBulkEntry {H : Type} : Lit × DataW H → Nat
  | (.string bytes, d) => bytes.length + uptoBulk d + 1
  | (_, d) => uptoBulk d + 1
 end
def uptoSmall : (H : Type) → List (DataW H) → Bool := fun _ ds => decide (uptoBulkAll ds ≤ 1048576)
def OpenSpec.upto (s : _root_.Go.ChangeSpec) : _root_.Go.OpenSpec := { _root_.Go.OpenSpec.ofChange s with cond := some uptoSmall }

/-- 'laws.FnExactRowOf', WHERE WHAT IT READS IS OF BULK AT MOST 1048576: true; the input reads as it did. -/
def fnExactRowOfUptoRow : OpenClaim := { program := "ytohcjafklfemfal", sum := "7de8ce26649a55cdf6afaf57fe360a464f9bdaae4a511328774d57e8221cdc52", func := "loop.example/g00522/laws.FnExactRowOf", spec := "fnExactRowOf", unfollowed := true, recurses := true, apart := false, narrowed := true }
def FnExactRowOfUptoSaid : Prop := fnExactRowOfUptoRow.holds Try.pinned (OpenSpec.upto fnExactRowOfSpec)

/-- 'laws.FnExactTrimHead', WHERE WHAT IT READS IS OF BULK AT MOST 1048576: true; the input reads as it did. -/
def fnExactTrimHeadUptoRow : OpenClaim := { program := "ytohcjafklfemfal", sum := "7de8ce26649a55cdf6afaf57fe360a464f9bdaae4a511328774d57e8221cdc52", func := "loop.example/g00522/laws.FnExactTrimHead", spec := "fnExactTrimHead", unfollowed := true, recurses := true, apart := false, narrowed := true }
def FnExactTrimHeadUptoSaid : Prop := fnExactTrimHeadUptoRow.holds Try.pinned (OpenSpec.upto fnExactTrimHeadSpec)

/-- 'laws.FnExactGoodItems', WHERE WHAT IT READS IS OF BULK AT MOST 1048576: true; the input reads as it did. -/
def fnExactGoodItemsUptoRow : OpenClaim := { program := "ytohcjafklfemfal", sum := "7de8ce26649a55cdf6afaf57fe360a464f9bdaae4a511328774d57e8221cdc52", func := "loop.example/g00522/laws.FnExactGoodItems", spec := "fnExactGoodItems", unfollowed := true, recurses := true, apart := false, narrowed := true }
def FnExactGoodItemsUptoSaid : Prop := fnExactGoodItemsUptoRow.holds Try.pinned (OpenSpec.upto fnExactGoodItemsSpec)

/-- 'laws.FnExactKeepLabels', WHERE WHAT IT READS IS OF BULK AT MOST 1048576: true; the input reads as it did. -/
def fnExactKeepLabelsUptoRow : OpenClaim := { program := "ytohcjafklfemfal", sum := "7de8ce26649a55cdf6afaf57fe360a464f9bdaae4a511328774d57e8221cdc52", func := "loop.example/g00522/laws.FnExactKeepLabels", spec := "fnExactKeepLabels", unfollowed := true, recurses := true, apart := false, narrowed := true }
def FnExactKeepLabelsUptoSaid : Prop := fnExactKeepLabelsUptoRow.holds Try.pinned (OpenSpec.upto fnExactKeepLabelsSpec)

/-- 'laws.FnExactTotalsBy', WHERE WHAT IT READS IS OF BULK AT MOST 1048576: true; the input reads as it did. -/
def fnExactTotalsByUptoRow : OpenClaim := { program := "ytohcjafklfemfal", sum := "7de8ce26649a55cdf6afaf57fe360a464f9bdaae4a511328774d57e8221cdc52", func := "loop.example/g00522/laws.FnExactTotalsBy", spec := "fnExactTotalsBy", inPlace := ["internal/abi.NoEscape", "internal/bytealg.MakeNoZero"], unfollowed := true, recurses := true, apart := false, narrowed := true }
def FnExactTotalsByUptoSaid : Prop := fnExactTotalsByUptoRow.holds Try.pinned (OpenSpec.upto fnExactTotalsBySpec)

/-- 'laws.FnExactMergeTotals', WHERE WHAT IT READS IS OF BULK AT MOST 1048576: true; the input reads as it did. -/
def fnExactMergeTotalsUptoRow : OpenClaim := { program := "ytohcjafklfemfal", sum := "7de8ce26649a55cdf6afaf57fe360a464f9bdaae4a511328774d57e8221cdc52", func := "loop.example/g00522/laws.FnExactMergeTotals", spec := "fnExactMergeTotals", inPlace := ["internal/abi.NoEscape", "internal/bytealg.MakeNoZero"], unfollowed := true, recurses := true, apart := false, narrowed := true }
def FnExactMergeTotalsUptoSaid : Prop := fnExactMergeTotalsUptoRow.holds Try.pinned (OpenSpec.upto fnExactMergeTotalsSpec)

end Rows
end Go.Proofs.Ytohcjafklfemfal
