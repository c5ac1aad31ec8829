/-
  No cell of these rows narrows 'for every input' (looked for: loops, veiled, ifaces, maps, wideKeys, modest, calm, conditions, laid).
  DERIVED. THE GIVEN ROWS OF THIS SEAT. 4 by the template 'for every input the law returns true; each argument reads behind the call as it read before'; 0 by the template 'total and deterministic' (their statements: YtlhmailmgpocbarTotals.lean).
  GIVEN WITH THE SEED: the statements are not yours to turn. If you find one false, say at which input.
  Laid BY PROGRAM, IN A SANDBOX (cutbox-rows.mjs): the forced cells as the released guide's own fill.sh prints them over the translation 94358b567eacd978… (all of the seat's roots in one cut). By AI agents, Wed Nov 11 2026. No macro, syntax, notation, axiom, sorry.
-/
import Derived.Test.YtlhmailmgpocbarChecked
import GoSem.Claim
import GoSem.ClaimJoined
import GoSem.ClaimMapViews
import Derived.JoinedTies
import Derived.KernelRfl
namespace Go.Proofs.Ytlhmailmgpocbar
/- THE CELL 'sum', in the pinned program and in every row, IS THE sha256 OF THE DUMP (.gsa) THAT YtlhmailmgpocbarProg.lean LOADS. Nothing in Lean hashes anything: it is a label: what it is worth is what the hold of that sum in a sandbox is worth. -/
noncomputable def Try.pinned : Pinned := { name := "ytlhmailmgpocbar", sum := "94358b567eacd978efbb2381c0aa0377f9e587f2e99d6678b01f04b0b41340e7", checked := Try.checked }
namespace Rows
def none {H : Type} : Left H := { results := [], args := [] }

/-- 'laws.FnExactCatchUp': WHATEVER THE INPUT: true; the input reads as it did. -/
def fnExactCatchUpSpec : ChangeSpec := { name := "fnExactCatchUp", fn := fun _ => fun
  | [d] => { results := [.lit (.bool true)], args := [d] }
  | _ => none }
def fnExactCatchUpRow : OpenClaim := { program := "ytlhmailmgpocbar", sum := "94358b567eacd978efbb2381c0aa0377f9e587f2e99d6678b01f04b0b41340e7", func := "loop.example/g00522/laws.FnExactCatchUp", spec := "fnExactCatchUp", recurses := true, apart := false }
def FnExactCatchUpSaid : Prop := fnExactCatchUpRow.holds Try.pinned (OpenSpec.ofChange fnExactCatchUpSpec)

/-- ITS FALSE NEIGHBOUR: 'it returns false'. Refute it at one input. -/
def fnExactCatchUpWrong : ChangeSpec := { name := "fnExactCatchUp", fn := fun _ => fun
  | [d] => { results := [.lit (.bool false)], args := [d] }
  | _ => none }
def FnExactCatchUpWrongFalsely : Prop := fnExactCatchUpRow.holds Try.pinned (OpenSpec.ofChange fnExactCatchUpWrong)

/-- 'laws.FnExactRunLines': WHATEVER THE INPUT: true; the input reads as it did. -/
def fnExactRunLinesSpec : ChangeSpec := { name := "fnExactRunLines", fn := fun _ => fun
  | [d] => { results := [.lit (.bool true)], args := [d] }
  | _ => none }
def fnExactRunLinesRow : OpenClaim := { program := "ytlhmailmgpocbar", sum := "94358b567eacd978efbb2381c0aa0377f9e587f2e99d6678b01f04b0b41340e7", func := "loop.example/g00522/laws.FnExactRunLines", spec := "fnExactRunLines", recurses := true, apart := false }
def FnExactRunLinesSaid : Prop := fnExactRunLinesRow.holds Try.pinned (OpenSpec.ofChange fnExactRunLinesSpec)

/-- ITS FALSE NEIGHBOUR: 'it returns false'. Refute it at one input. -/
def fnExactRunLinesWrong : ChangeSpec := { name := "fnExactRunLines", fn := fun _ => fun
  | [d] => { results := [.lit (.bool false)], args := [d] }
  | _ => none }
def FnExactRunLinesWrongFalsely : Prop := fnExactRunLinesRow.holds Try.pinned (OpenSpec.ofChange fnExactRunLinesWrong)

/-- 'laws.FnExactZigZag': WHATEVER THE INPUT: true; the input reads as it did. -/
def fnExactZigZagSpec : ChangeSpec := { name := "fnExactZigZag", fn := fun _ => fun
  | [d] => { results := [.lit (.bool true)], args := [d] }
  | _ => none }
def fnExactZigZagRow : OpenClaim := { program := "ytlhmailmgpocbar", sum := "94358b567eacd978efbb2381c0aa0377f9e587f2e99d6678b01f04b0b41340e7", func := "loop.example/g00522/laws.FnExactZigZag", spec := "fnExactZigZag", apart := false }
def FnExactZigZagSaid : Prop := fnExactZigZagRow.holds Try.pinned (OpenSpec.ofChange fnExactZigZagSpec)

/-- ITS FALSE NEIGHBOUR: 'it returns false'. Refute it at one input. -/
def fnExactZigZagWrong : ChangeSpec := { name := "fnExactZigZag", fn := fun _ => fun
  | [d] => { results := [.lit (.bool false)], args := [d] }
  | _ => none }
def FnExactZigZagWrongFalsely : Prop := fnExactZigZagRow.holds Try.pinned (OpenSpec.ofChange fnExactZigZagWrong)

/-- 'laws.FnExactUnZigZag': WHATEVER THE INPUT: true; the input reads as it did. -/
def fnExactUnZigZagSpec : ChangeSpec := { name := "fnExactUnZigZag", fn := fun _ => fun
  | [d] => { results := [.lit (.bool true)], args := [d] }
  | _ => none }
def fnExactUnZigZagRow : OpenClaim := { program := "ytlhmailmgpocbar", sum := "94358b567eacd978efbb2381c0aa0377f9e587f2e99d6678b01f04b0b41340e7", func := "loop.example/g00522/laws.FnExactUnZigZag", spec := "fnExactUnZigZag", apart := false }
def FnExactUnZigZagSaid : Prop := fnExactUnZigZagRow.holds Try.pinned (OpenSpec.ofChange fnExactUnZigZagSpec)

/-- ITS FALSE NEIGHBOUR: 'it returns false'. Refute it at one input. -/
def fnExactUnZigZagWrong : ChangeSpec := { name := "fnExactUnZigZag", fn := fun _ => fun
  | [d] => { results := [.lit (.bool false)], args := [d] }
  | _ => none }
def FnExactUnZigZagWrongFalsely : Prop := fnExactUnZigZagRow.holds Try.pinned (OpenSpec.ofChange fnExactUnZigZagWrong)

/- THE SECOND FORM. 'bulk': how many values and letters a reading holds, each counted each time it is reached (what is shared counts as often as it is met; a slice's spare places count too). A statement '..UptoSaid' is the law's where the arguments, and the package variables that the reading takes, are together of bulk at most 1048576: NARROWER than '..Said'. Prove '..Said' where nothing that the law and all that it calls make is longer than what came in: it says more and counts as full. Else prove '..UptoSaid'. A law counts once. -/
mutual
def uptoBulk {H : Type} : DataW H → Nat
  | .lit (.string bytes) => bytes.length + 1
  | .lit _ => 1
  | .nil => 1
  | .ptr d => uptoBulk d + 1
  | .slice elems spare => uptoBulkAll elems + uptoBulkAll spare + 1
  | .agg parts => uptoBulkAll parts + 1
  | .iface _ d => uptoBulk d + 1
  | .map entries => uptoBulkEntries entries + 1
  | .held _ => 1
def uptoBulkAll {H : Type} : List (DataW H) → Nat
  | [] => 0
  | d :: r => uptoBulk d + uptoBulkAll r
def uptoBulkEntries {H : Type} : List (Lit × DataW H) → Nat
  | [] => 0
  | x :: r => uptoBulkEntry x + uptoBulkEntries r
def uptoBulkEntry {H : Type} : Lit × DataW H → Nat
  | (.string bytes, d) => bytes.length + uptoBulk d + 1
  | (_, d) => uptoBulk d + 1
 end
def uptoSmall : (H : Type) → List (DataW H) → Bool := fun _ ds => decide (uptoBulkAll ds ≤ 1048576)
def OpenSpec.upto (s : _root_.Go.ChangeSpec) : _root_.Go.OpenSpec := { _root_.Go.OpenSpec.ofChange s with cond := some uptoSmall }

/-- 'laws.FnExactCatchUp', WHERE WHAT IT READS IS OF BULK AT MOST 1048576: true; the input reads as it did. -/
def fnExactCatchUpUptoRow : OpenClaim := { program := "ytlhmailmgpocbar", sum := "94358b567eacd978efbb2381c0aa0377f9e587f2e99d6678b01f04b0b41340e7", func := "loop.example/g00522/laws.FnExactCatchUp", spec := "fnExactCatchUp", recurses := true, apart := false, narrowed := true }
def FnExactCatchUpUptoSaid : Prop := fnExactCatchUpUptoRow.holds Try.pinned (OpenSpec.upto fnExactCatchUpSpec)

/-- 'laws.FnExactRunLines', WHERE WHAT IT READS IS OF BULK AT MOST 1048576: true; the input reads as it did. -/
def fnExactRunLinesUptoRow : OpenClaim := { program := "ytlhmailmgpocbar", sum := "94358b567eacd978efbb2381c0aa0377f9e587f2e99d6678b01f04b0b41340e7", func := "loop.example/g00522/laws.FnExactRunLines", spec := "fnExactRunLines", recurses := true, apart := false, narrowed := true }
def FnExactRunLinesUptoSaid : Prop := fnExactRunLinesUptoRow.holds Try.pinned (OpenSpec.upto fnExactRunLinesSpec)

/-- 'laws.FnExactZigZag', WHERE WHAT IT READS IS OF BULK AT MOST 1048576: true; the input reads as it did. -/
def fnExactZigZagUptoRow : OpenClaim := { program := "ytlhmailmgpocbar", sum := "94358b567eacd978efbb2381c0aa0377f9e587f2e99d6678b01f04b0b41340e7", func := "loop.example/g00522/laws.FnExactZigZag", spec := "fnExactZigZag", apart := false, narrowed := true }
def FnExactZigZagUptoSaid : Prop := fnExactZigZagUptoRow.holds Try.pinned (OpenSpec.upto fnExactZigZagSpec)

/-- 'laws.FnExactUnZigZag', WHERE WHAT IT READS IS OF BULK AT MOST 1048576: true; the input reads as it did. -/
def fnExactUnZigZagUptoRow : OpenClaim := { program := "ytlhmailmgpocbar", sum := "94358b567eacd978efbb2381c0aa0377f9e587f2e99d6678b01f04b0b41340e7", func := "loop.example/g00522/laws.FnExactUnZigZag", spec := "fnExactUnZigZag", apart := false, narrowed := true }
def FnExactUnZigZagUptoSaid : Prop := fnExactUnZigZagUptoRow.holds Try.pinned (OpenSpec.upto fnExactUnZigZagSpec)

end Rows
end Go.Proofs.Ytlhmailmgpocbar
