/-
  No cell of these rows narrows 'for every input' (looked for: loops, veiled, ifaces, maps, wideKeys, modest, calm, conditions, laid).
  DERIVED. THE GIVEN ROWS OF THIS SEAT. 6 by the template 'for every input the law returns true; each argument reads behind the call as it read before'; 0 by the template 'total and deterministic' (their statements: YtfmfnlpajoikmamTotals.lean).
  GIVEN WITH THE SEED: the statements are not yours to turn. If you find one false, say at which input.
  Laid BY PROGRAM, IN A SANDBOX (cutbox-rows.mjs): the forced cells as the released guide's own fill.sh prints them over the translation 514a8f3900837edd… (all of the seat's roots in one cut). By AI agents, Wed Nov 11 2026. No macro, syntax, notation, axiom, sorry.
-/
import Derived.Test.YtfmfnlpajoikmamChecked
import GoSem.Claim
import GoSem.ClaimJoined
import GoSem.ClaimMapViews
import Derived.JoinedTies
import Derived.KernelRfl
namespace Go.Proofs.Ytfmfnlpajoikmam
/- THE CELL 'sum', in the pinned program and in every row, IS THE sha256 OF THE DUMP (.gsa) THAT YtfmfnlpajoikmamProg.lean LOADS. Nothing in Lean hashes anything: it is a label: what it is worth is what the hold of that sum in a sandbox is worth. -/
noncomputable def Try.pinned : Pinned := { name := "ytfmfnlpajoikmam", sum := "514a8f3900837edd4fb6eae3be1fa4df192125f5a8ff60aa05a319e2b5f972e4", checked := Try.checked }
namespace Rows
def none {H : Type} : Left H := { results := [], args := [] }

/-- 'laws.FnExactGoodTotals': WHATEVER THE INPUT: true; the input reads as it did. -/
def fnExactGoodTotalsSpec : ChangeSpec := { name := "fnExactGoodTotals", fn := fun _ => fun
  | [d] => { results := [.lit (.bool true)], args := [d] }
  | _ => none }
def fnExactGoodTotalsRow : OpenClaim := { program := "ytfmfnlpajoikmam", sum := "514a8f3900837edd4fb6eae3be1fa4df192125f5a8ff60aa05a319e2b5f972e4", func := "loop.example/g00522/laws.FnExactGoodTotals", spec := "fnExactGoodTotals", inPlace := ["internal/abi.NoEscape", "internal/bytealg.MakeNoZero"], unfollowed := true, recurses := true, apart := false }
def FnExactGoodTotalsSaid : Prop := fnExactGoodTotalsRow.holds Try.pinned (OpenSpec.ofChange fnExactGoodTotalsSpec)

/-- ITS FALSE NEIGHBOUR: 'it returns false'. Refute it at one input. -/
def fnExactGoodTotalsWrong : ChangeSpec := { name := "fnExactGoodTotals", fn := fun _ => fun
  | [d] => { results := [.lit (.bool false)], args := [d] }
  | _ => none }
def FnExactGoodTotalsWrongFalsely : Prop := fnExactGoodTotalsRow.holds Try.pinned (OpenSpec.ofChange fnExactGoodTotalsWrong)

/-- 'laws.FnExactCoarseTotals': WHATEVER THE INPUT: true; the input reads as it did. -/
def fnExactCoarseTotalsSpec : ChangeSpec := { name := "fnExactCoarseTotals", fn := fun _ => fun
  | [d1, d2] => { results := [.lit (.bool true)], args := [d1, d2] }
  | _ => none }
def fnExactCoarseTotalsRow : OpenClaim := { program := "ytfmfnlpajoikmam", sum := "514a8f3900837edd4fb6eae3be1fa4df192125f5a8ff60aa05a319e2b5f972e4", func := "loop.example/g00522/laws.FnExactCoarseTotals", spec := "fnExactCoarseTotals", inPlace := ["internal/abi.NoEscape", "internal/bytealg.MakeNoZero"], unfollowed := true, recurses := true, apart := false }
def FnExactCoarseTotalsSaid : Prop := fnExactCoarseTotalsRow.holds Try.pinned (OpenSpec.ofChange fnExactCoarseTotalsSpec)

/-- ITS FALSE NEIGHBOUR: 'it returns false'. Refute it at one input. -/
def fnExactCoarseTotalsWrong : ChangeSpec := { name := "fnExactCoarseTotals", fn := fun _ => fun
  | [d1, d2] => { results := [.lit (.bool false)], args := [d1, d2] }
  | _ => none }
def FnExactCoarseTotalsWrongFalsely : Prop := fnExactCoarseTotalsRow.holds Try.pinned (OpenSpec.ofChange fnExactCoarseTotalsWrong)

/-- 'laws.FnExactValuesOf': WHATEVER THE INPUT: true; the input reads as it did. -/
def fnExactValuesOfSpec : ChangeSpec := { name := "fnExactValuesOf", fn := fun _ => fun
  | [d1, d2] => { results := [.lit (.bool true)], args := [d1, d2] }
  | _ => none }
def fnExactValuesOfRow : OpenClaim := { program := "ytfmfnlpajoikmam", sum := "514a8f3900837edd4fb6eae3be1fa4df192125f5a8ff60aa05a319e2b5f972e4", func := "loop.example/g00522/laws.FnExactValuesOf", spec := "fnExactValuesOf", inPlace := ["internal/abi.NoEscape", "internal/bytealg.MakeNoZero"], unfollowed := true, recurses := true, apart := false }
def FnExactValuesOfSaid : Prop := fnExactValuesOfRow.holds Try.pinned (OpenSpec.ofChange fnExactValuesOfSpec)

/-- ITS FALSE NEIGHBOUR: 'it returns false'. Refute it at one input. -/
def fnExactValuesOfWrong : ChangeSpec := { name := "fnExactValuesOf", fn := fun _ => fun
  | [d1, d2] => { results := [.lit (.bool false)], args := [d1, d2] }
  | _ => none }
def FnExactValuesOfWrongFalsely : Prop := fnExactValuesOfRow.holds Try.pinned (OpenSpec.ofChange fnExactValuesOfWrong)

/-- 'laws.FnExactTopOf': WHATEVER THE INPUT: true; the input reads as it did. -/
def fnExactTopOfSpec : ChangeSpec := { name := "fnExactTopOf", fn := fun _ => fun
  | [d1, d2, d3] => { results := [.lit (.bool true)], args := [d1, d2, d3] }
  | _ => none }
def fnExactTopOfRow : OpenClaim := { program := "ytfmfnlpajoikmam", sum := "514a8f3900837edd4fb6eae3be1fa4df192125f5a8ff60aa05a319e2b5f972e4", func := "loop.example/g00522/laws.FnExactTopOf", spec := "fnExactTopOf", inPlace := ["internal/abi.NoEscape", "internal/bytealg.MakeNoZero"], unfollowed := true, recurses := true, apart := false }
def FnExactTopOfSaid : Prop := fnExactTopOfRow.holds Try.pinned (OpenSpec.ofChange fnExactTopOfSpec)

/-- ITS FALSE NEIGHBOUR: 'it returns false'. Refute it at one input. -/
def fnExactTopOfWrong : ChangeSpec := { name := "fnExactTopOf", fn := fun _ => fun
  | [d1, d2, d3] => { results := [.lit (.bool false)], args := [d1, d2, d3] }
  | _ => none }
def FnExactTopOfWrongFalsely : Prop := fnExactTopOfRow.holds Try.pinned (OpenSpec.ofChange fnExactTopOfWrong)

/-- 'laws.FnExactNewSketch': WHATEVER THE INPUT: true; the input reads as it did. -/
def fnExactNewSketchSpec : ChangeSpec := { name := "fnExactNewSketch", fn := fun _ => fun
  | [d] => { results := [.lit (.bool true)], args := [d] }
  | _ => none }
def fnExactNewSketchRow : OpenClaim := { program := "ytfmfnlpajoikmam", sum := "514a8f3900837edd4fb6eae3be1fa4df192125f5a8ff60aa05a319e2b5f972e4", func := "loop.example/g00522/laws.FnExactNewSketch", spec := "fnExactNewSketch", apart := false }
def FnExactNewSketchSaid : Prop := fnExactNewSketchRow.holds Try.pinned (OpenSpec.ofChange fnExactNewSketchSpec)

/-- ITS FALSE NEIGHBOUR: 'it returns false'. Refute it at one input. -/
def fnExactNewSketchWrong : ChangeSpec := { name := "fnExactNewSketch", fn := fun _ => fun
  | [d] => { results := [.lit (.bool false)], args := [d] }
  | _ => none }
def FnExactNewSketchWrongFalsely : Prop := fnExactNewSketchRow.holds Try.pinned (OpenSpec.ofChange fnExactNewSketchWrong)

/-- 'laws.FnExactGoodSketch': WHATEVER THE INPUT: true; the input reads as it did. -/
def fnExactGoodSketchSpec : ChangeSpec := { name := "fnExactGoodSketch", fn := fun _ => fun
  | [d] => { results := [.lit (.bool true)], args := [d] }
  | _ => none }
def fnExactGoodSketchRow : OpenClaim := { program := "ytfmfnlpajoikmam", sum := "514a8f3900837edd4fb6eae3be1fa4df192125f5a8ff60aa05a319e2b5f972e4", func := "loop.example/g00522/laws.FnExactGoodSketch", spec := "fnExactGoodSketch", apart := false }
def FnExactGoodSketchSaid : Prop := fnExactGoodSketchRow.holds Try.pinned (OpenSpec.ofChange fnExactGoodSketchSpec)

/-- ITS FALSE NEIGHBOUR: 'it returns false'. Refute it at one input. -/
def fnExactGoodSketchWrong : ChangeSpec := { name := "fnExactGoodSketch", fn := fun _ => fun
  | [d] => { results := [.lit (.bool false)], args := [d] }
  | _ => none }
def FnExactGoodSketchWrongFalsely : Prop := fnExactGoodSketchRow.holds Try.pinned (OpenSpec.ofChange fnExactGoodSketchWrong)

/- THE SECOND FORM. 'bulk': how many values and letters a reading holds, each counted each time it is reached (what is shared counts as often as it is met; a slice's spare places count too). A statement '..UptoSaid' is the law's where the arguments, and the package variables that the reading takes, are together of bulk at most 1048576: NARROWER than '..Said'. Prove '..Said' where nothing that the law and all that it calls make is longer than what came in: it says more and counts as full. Else prove '..UptoSaid'. A law counts once. -/
mutual
def uptoBulk {H : Type} : DataW H → Nat
  | .lit (.string bytes) => bytes.length + 1
  | .lit _ => 1
  | .nil => 1
  | .ptr d => uptoBulk d + 1
  | .slice elems spare => uptoBulkAll elems + uptoBulkAll spare + 1
  | .agg parts => uptoBulkAll parts + 1
  | .iface _ d => uptoBulk d + 1
  | .map entries => uptoBulkEntries entries + 1
  | .held _ => 1
def uptoBulkAll {H : Type} : List (DataW H) → Nat
  | [] => 0
  | d :: r => uptoBulk d + uptoBulkAll r
def uptoBulkEntries {H : Type} : List (Lit × DataW H) → Nat
  | [] => 0
  | x :: r => uptoBulkEntry x + uptoBulkEntries r
def uptoBulkEntry {H : Type} : Lit × DataW H → Nat
  | (.string bytes, d) => bytes.length + uptoBulk d + 1
  | (_, d) => uptoBulk d + 1
 end
def uptoSmall : (H : Type) → List (DataW H) → Bool := fun _ ds => decide (uptoBulkAll ds ≤ 1048576)
def OpenSpec.upto (s : _root_.Go.ChangeSpec) : _root_.Go.OpenSpec := { _root_.Go.OpenSpec.ofChange s with cond := some uptoSmall }

/-- 'laws.FnExactGoodTotals', WHERE WHAT IT READS IS OF BULK AT MOST 1048576: true; the input reads as it did. -/
def fnExactGoodTotalsUptoRow : OpenClaim := { program := "ytfmfnlpajoikmam", sum := "514a8f3900837edd4fb6eae3be1fa4df192125f5a8ff60aa05a319e2b5f972e4", func := "loop.example/g00522/laws.FnExactGoodTotals", spec := "fnExactGoodTotals", inPlace := ["internal/abi.NoEscape", "internal/bytealg.MakeNoZero"], unfollowed := true, recurses := true, apart := false, narrowed := true }
def FnExactGoodTotalsUptoSaid : Prop := fnExactGoodTotalsUptoRow.holds Try.pinned (OpenSpec.upto fnExactGoodTotalsSpec)

/-- 'laws.FnExactCoarseTotals', WHERE WHAT IT READS IS OF BULK AT MOST 1048576: true; the input reads as it did. -/
def fnExactCoarseTotalsUptoRow : OpenClaim := { program := "ytfmfnlpajoikmam", sum := "514a8f3900837edd4fb6eae3be1fa4df192125f5a8ff60aa05a319e2b5f972e4", func := "loop.example/g00522/laws.FnExactCoarseTotals", spec := "fnExactCoarseTotals", inPlace := ["internal/abi.NoEscape", "internal/bytealg.MakeNoZero"], unfollowed := true, recurses := true, apart := false, narrowed := true }
def FnExactCoarseTotalsUptoSaid : Prop := fnExactCoarseTotalsUptoRow.holds Try.pinned (OpenSpec.upto fnExactCoarseTotalsSpec)

/-- 'laws.FnExactValuesOf', WHERE WHAT IT READS IS OF BULK AT MOST 1048576: true; the input reads as it did. -/
def fnExactValuesOfUptoRow : OpenClaim := { program := "ytfmfnlpajoikmam", sum := "514a8f3900837edd4fb6eae3be1fa4df192125f5a8ff60aa05a319e2b5f972e4", func := "loop.example/g00522/laws.FnExactValuesOf", spec := "fnExactValuesOf", inPlace := ["internal/abi.NoEscape", "internal/bytealg.MakeNoZero"], unfollowed := true, recurses := true, apart := false, narrowed := true }
def FnExactValuesOfUptoSaid : Prop := fnExactValuesOfUptoRow.holds Try.pinned (OpenSpec.upto fnExactValuesOfSpec)

/-- 'laws.FnExactTopOf', WHERE WHAT IT READS IS OF BULK AT MOST 1048576: true; the input reads as it did. -/
def fnExactTopOfUptoRow : OpenClaim := { program := "ytfmfnlpajoikmam", sum := "514a8f3900837edd4fb6eae3be1fa4df192125f5a8ff60aa05a319e2b5f972e4", func := "loop.example/g00522/laws.FnExactTopOf", spec := "fnExactTopOf", inPlace := ["internal/abi.NoEscape", "internal/bytealg.MakeNoZero"], unfollowed := true, recurses := true, apart := false, narrowed := true }
def FnExactTopOfUptoSaid : Prop := fnExactTopOfUptoRow.holds Try.pinned (OpenSpec.upto fnExactTopOfSpec)

/-- 'laws.FnExactNewSketch', WHERE WHAT IT READS IS OF BULK AT MOST 1048576: true; the input reads as it did. -/
def fnExactNewSketchUptoRow : OpenClaim := { program := "ytfmfnlpajoikmam", sum := "514a8f3900837edd4fb6eae3be1fa4df192125f5a8ff60aa05a319e2b5f972e4", func := "loop.example/g00522/laws.FnExactNewSketch", spec := "fnExactNewSketch", apart := false, narrowed := true }
def FnExactNewSketchUptoSaid : Prop := fnExactNewSketchUptoRow.holds Try.pinned (OpenSpec.upto fnExactNewSketchSpec)

/-- 'laws.FnExactGoodSketch', WHERE WHAT IT READS IS OF BULK AT MOST 1048576: true; the input reads as it did. -/
def fnExactGoodSketchUptoRow : OpenClaim := { program := "ytfmfnlpajoikmam", sum := "514a8f3900837edd4fb6eae3be1fa4df192125f5a8ff60aa05a319e2b5f972e4", func := "loop.example/g00522/laws.FnExactGoodSketch", spec := "fnExactGoodSketch", apart := false, narrowed := true }
def FnExactGoodSketchUptoSaid : Prop := fnExactGoodSketchUptoRow.holds Try.pinned (OpenSpec.upto fnExactGoodSketchSpec)

end Rows
end Go.Proofs.Ytfmfnlpajoikmam
