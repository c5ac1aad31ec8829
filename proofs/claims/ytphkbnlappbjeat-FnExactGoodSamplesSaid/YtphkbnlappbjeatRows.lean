/-
  No cell of these rows narrows 'for every input' (looked for: loops, veiled, ifaces, maps, wideKeys, modest, calm, conditions, laid).
  DERIVED. THE GIVEN ROWS OF THIS SEAT. 3 by the template 'for every input the law returns true; each argument reads behind the call as it read before'; 0 by the template 'total and deterministic' (their statements: YtphkbnlappbjeatTotals.lean).
  GIVEN WITH THE SEED: the statements are not yours to turn. If you find one false, say at which input.
  Laid BY PROGRAM, IN A SANDBOX (cutbox-rows.mjs): the forced cells as the released guide's own fill.sh prints them over the translation 10bcdd58533cd1d6… (all of the seat's roots in one cut). By AI agents, Wed Nov 11 2026. No macro, syntax, notation, axiom, sorry.
-/
import Derived.Test.YtphkbnlappbjeatChecked
import GoSem.Claim
import GoSem.ClaimJoined
import GoSem.ClaimMapViews
import Derived.JoinedTies
import Derived.KernelRfl
namespace Go.Proofs.Ytphkbnlappbjeat
/- THE CELL 'sum', in the pinned program and in every row, IS THE sha256 OF THE DUMP (.gsa) THAT YtphkbnlappbjeatProg.lean LOADS. Nothing in Lean hashes anything: it is a label: what it is worth is what the hold of that sum in a sandbox is worth. -/
noncomputable def Try.pinned : Pinned := { name := "ytphkbnlappbjeat", sum := "10bcdd58533cd1d6e8c99b0e1a16a62a59ed629a040ff2c4e2f729cc8638fe8a", checked := Try.checked }
namespace Rows
def none {H : Type} : Left H := { results := [], args := [] }

/-- 'laws.FnExactGoodSamples': WHATEVER THE INPUT: true; the input reads as it did. -/
def fnExactGoodSamplesSpec : ChangeSpec := { name := "fnExactGoodSamples", fn := fun _ => fun
  | [d] => { results := [.lit (.bool true)], args := [d] }
  | _ => none }
def fnExactGoodSamplesRow : OpenClaim := { program := "ytphkbnlappbjeat", sum := "10bcdd58533cd1d6e8c99b0e1a16a62a59ed629a040ff2c4e2f729cc8638fe8a", func := "loop.example/g00522/laws.FnExactGoodSamples", spec := "fnExactGoodSamples", apart := false }
def FnExactGoodSamplesSaid : Prop := fnExactGoodSamplesRow.holds Try.pinned (OpenSpec.ofChange fnExactGoodSamplesSpec)

/-- ITS FALSE NEIGHBOUR: 'it returns false'. Refute it at one input. -/
def fnExactGoodSamplesWrong : ChangeSpec := { name := "fnExactGoodSamples", fn := fun _ => fun
  | [d] => { results := [.lit (.bool false)], args := [d] }
  | _ => none }
def FnExactGoodSamplesWrongFalsely : Prop := fnExactGoodSamplesRow.holds Try.pinned (OpenSpec.ofChange fnExactGoodSamplesWrong)

/-- 'laws.FnExactDeltasOf': WHATEVER THE INPUT: true; the input reads as it did. -/
def fnExactDeltasOfSpec : ChangeSpec := { name := "fnExactDeltasOf", fn := fun _ => fun
  | [d] => { results := [.lit (.bool true)], args := [d] }
  | _ => none }
def fnExactDeltasOfRow : OpenClaim := { program := "ytphkbnlappbjeat", sum := "10bcdd58533cd1d6e8c99b0e1a16a62a59ed629a040ff2c4e2f729cc8638fe8a", func := "loop.example/g00522/laws.FnExactDeltasOf", spec := "fnExactDeltasOf", unfollowed := true, recurses := true, apart := false }
def FnExactDeltasOfSaid : Prop := fnExactDeltasOfRow.holds Try.pinned (OpenSpec.ofChange fnExactDeltasOfSpec)

/-- ITS FALSE NEIGHBOUR: 'it returns false'. Refute it at one input. -/
def fnExactDeltasOfWrong : ChangeSpec := { name := "fnExactDeltasOf", fn := fun _ => fun
  | [d] => { results := [.lit (.bool false)], args := [d] }
  | _ => none }
def FnExactDeltasOfWrongFalsely : Prop := fnExactDeltasOfRow.holds Try.pinned (OpenSpec.ofChange fnExactDeltasOfWrong)

/-- 'laws.FnExactSumsOf': WHATEVER THE INPUT: true; the input reads as it did. -/
def fnExactSumsOfSpec : ChangeSpec := { name := "fnExactSumsOf", fn := fun _ => fun
  | [d] => { results := [.lit (.bool true)], args := [d] }
  | _ => none }
def fnExactSumsOfRow : OpenClaim := { program := "ytphkbnlappbjeat", sum := "10bcdd58533cd1d6e8c99b0e1a16a62a59ed629a040ff2c4e2f729cc8638fe8a", func := "loop.example/g00522/laws.FnExactSumsOf", spec := "fnExactSumsOf", unfollowed := true, recurses := true, apart := false }
def FnExactSumsOfSaid : Prop := fnExactSumsOfRow.holds Try.pinned (OpenSpec.ofChange fnExactSumsOfSpec)

/-- ITS FALSE NEIGHBOUR: 'it returns false'. Refute it at one input. -/
def fnExactSumsOfWrong : ChangeSpec := { name := "fnExactSumsOf", fn := fun _ => fun
  | [d] => { results := [.lit (.bool false)], args := [d] }
  | _ => none }
def FnExactSumsOfWrongFalsely : Prop := fnExactSumsOfRow.holds Try.pinned (OpenSpec.ofChange fnExactSumsOfWrong)

/- THE SECOND FORM. 'bulk': how many values and letters a reading holds, each counted each time it is reached (what is shared counts as often as it is met; a slice's spare places count too). A statement '..UptoSaid' is the law's where the arguments, and the package variables that the reading takes, are together of bulk at most 1048576: NARROWER than '..Said'. Prove '..Said' where nothing that the law and all that it calls make is longer than what came in: it says more and counts as full. Else prove '..UptoSaid'. A law counts once. -/
mutual
def uptoBulk {H : Type} : DataW H → Nat
  | .lit (.string bytes) => bytes.length + 1
  | .lit _ => 1
  | .nil => 1
  | .ptr d => uptoBulk d + 1
  | .slice elems spare => uptoBulkAll elems + uptoBulkAll spare + 1
  | .agg parts => uptoBulkAll parts + 1
  | .iface _ d => uptoBulk d + 1
  | .map entries => uptoBulkEntries entries + 1
  | .held _ => 1
def uptoBulkAll {H : Type} : List (DataW H) → Nat
  | [] => 0
  | d :: r => uptoBulk d + uptoBulkAll r
def uptoBulkEntries {H : Type} : List (Lit × DataW H) → Nat
  | [] => 0
  | x :: r => uptoBulkEntry x + uptoBulkEntries r
def uptoBulkEntry {H : Type} : Lit × DataW H → Nat
  | (.string bytes, d) => bytes.length + uptoBulk d + 1
  | (_, d) => uptoBulk d + 1
 end
def uptoSmall : (H : Type) → List (DataW H) → Bool := fun _ ds => decide (uptoBulkAll ds ≤ 1048576)
def OpenSpec.upto (s : _root_.Go.ChangeSpec) : _root_.Go.OpenSpec := { _root_.Go.OpenSpec.ofChange s with cond := some uptoSmall }

/-- 'laws.FnExactGoodSamples', WHERE WHAT IT READS IS OF BULK AT MOST 1048576: true; the input reads as it did. -/
def fnExactGoodSamplesUptoRow : OpenClaim := { program := "ytphkbnlappbjeat", sum := "10bcdd58533cd1d6e8c99b0e1a16a62a59ed629a040ff2c4e2f729cc8638fe8a", func := "loop.example/g00522/laws.FnExactGoodSamples", spec := "fnExactGoodSamples", apart := false, narrowed := true }
def FnExactGoodSamplesUptoSaid : Prop := fnExactGoodSamplesUptoRow.holds Try.pinned (OpenSpec.upto fnExactGoodSamplesSpec)

/-- 'laws.FnExactDeltasOf', WHERE WHAT IT READS IS OF BULK AT MOST 1048576: true; the input reads as it did. -/
def fnExactDeltasOfUptoRow : OpenClaim := { program := "ytphkbnlappbjeat", sum := "10bcdd58533cd1d6e8c99b0e1a16a62a59ed629a040ff2c4e2f729cc8638fe8a", func := "loop.example/g00522/laws.FnExactDeltasOf", spec := "fnExactDeltasOf", unfollowed := true, recurses := true, apart := false, narrowed := true }
def FnExactDeltasOfUptoSaid : Prop := fnExactDeltasOfUptoRow.holds Try.pinned (OpenSpec.upto fnExactDeltasOfSpec)

/-- 'laws.FnExactSumsOf', WHERE WHAT IT READS IS OF BULK AT MOST 1048576: true; the input reads as it did. -/
def fnExactSumsOfUptoRow : OpenClaim := { program := "ytphkbnlappbjeat", sum := "10bcdd58533cd1d6e8c99b0e1a16a62a59ed629a040ff2c4e2f729cc8638fe8a", func := "loop.example/g00522/laws.FnExactSumsOf", spec := "fnExactSumsOf", unfollowed := true, recurses := true, apart := false, narrowed := true }
def FnExactSumsOfUptoSaid : Prop := fnExactSumsOfUptoRow.holds Try.pinned (OpenSpec.upto fnExactSumsOfSpec)

end Rows
end Go.Proofs.Ytphkbnlappbjeat
