/-
  No cell of these rows narrows 'for every input' (looked for: loops, veiled, ifaces, maps, wideKeys, modest, calm, conditions, laid).
  DERIVED. THE GIVEN ROWS OF THIS SEAT. 4 by the template 'for every input the law returns true; each argument reads behind the call as it read before'; 0 by the template 'total and deterministic' (their statements: YtkfnejiiancmhaiTotals.lean).
  GIVEN WITH THE SEED: the statements are not yours to turn. If you find one false, say at which input.
  Laid BY PROGRAM, IN A SANDBOX (cutbox-rows.mjs): the forced cells as the released guide's own fill.sh prints them over the translation 365711090953b235… (all of the seat's roots in one cut). By AI agents, Wed Nov 11 2026. No macro, syntax, notation, axiom, sorry.
-/
import Derived.Test.YtkfnejiiancmhaiChecked
import GoSem.Claim
import GoSem.ClaimJoined
import GoSem.ClaimMapViews
import Derived.JoinedTies
import Derived.KernelRfl
namespace Go.Proofs.Ytkfnejiiancmhai
/- THE CELL 'sum', in the pinned program and in every row, IS THE sha256 OF THE DUMP (.gsa) THAT YtkfnejiiancmhaiProg.lean LOADS. Nothing in Lean hashes anything: it is a label: what it is worth is what the hold of that sum in a sandbox is worth. -/
noncomputable def Try.pinned : Pinned := { name := "ytkfnejiiancmhai", sum := "365711090953b235e7559b4eb003318a59e654414b442e0d006b352ac9ff4810", checked := Try.checked }
namespace Rows
def none {H : Type} : Left H := { results := [], args := [] }

/-- 'laws.FnExactCutOf': WHATEVER THE INPUT: true; the input reads as it did. -/
def fnExactCutOfSpec : ChangeSpec := { name := "fnExactCutOf", fn := fun _ => fun
  | [d1, d2, d3] => { results := [.lit (.bool true)], args := [d1, d2, d3] }
  | _ => none }
def fnExactCutOfRow : OpenClaim := { program := "ytkfnejiiancmhai", sum := "365711090953b235e7559b4eb003318a59e654414b442e0d006b352ac9ff4810", func := "loop.example/g00522/laws.FnExactCutOf", spec := "fnExactCutOf", apart := false }
def FnExactCutOfSaid : Prop := fnExactCutOfRow.holds Try.pinned (OpenSpec.ofChange fnExactCutOfSpec)

/-- ITS FALSE NEIGHBOUR: 'it returns false'. Refute it at one input. -/
def fnExactCutOfWrong : ChangeSpec := { name := "fnExactCutOf", fn := fun _ => fun
  | [d1, d2, d3] => { results := [.lit (.bool false)], args := [d1, d2, d3] }
  | _ => none }
def FnExactCutOfWrongFalsely : Prop := fnExactCutOfRow.holds Try.pinned (OpenSpec.ofChange fnExactCutOfWrong)

/-- 'laws.FnExactJoinCuts': WHATEVER THE INPUT: true; the input reads as it did. -/
def fnExactJoinCutsSpec : ChangeSpec := { name := "fnExactJoinCuts", fn := fun _ => fun
  | [d1, d2] => { results := [.lit (.bool true)], args := [d1, d2] }
  | _ => none }
def fnExactJoinCutsRow : OpenClaim := { program := "ytkfnejiiancmhai", sum := "365711090953b235e7559b4eb003318a59e654414b442e0d006b352ac9ff4810", func := "loop.example/g00522/laws.FnExactJoinCuts", spec := "fnExactJoinCuts", apart := false }
def FnExactJoinCutsSaid : Prop := fnExactJoinCutsRow.holds Try.pinned (OpenSpec.ofChange fnExactJoinCutsSpec)

/-- ITS FALSE NEIGHBOUR: 'it returns false'. Refute it at one input. -/
def fnExactJoinCutsWrong : ChangeSpec := { name := "fnExactJoinCuts", fn := fun _ => fun
  | [d1, d2] => { results := [.lit (.bool false)], args := [d1, d2] }
  | _ => none }
def FnExactJoinCutsWrongFalsely : Prop := fnExactJoinCutsRow.holds Try.pinned (OpenSpec.ofChange fnExactJoinCutsWrong)

/-- 'laws.FnExactGoodBank': WHATEVER THE INPUT: true; the input reads as it did. -/
def fnExactGoodBankSpec : ChangeSpec := { name := "fnExactGoodBank", fn := fun _ => fun
  | [d] => { results := [.lit (.bool true)], args := [d] }
  | _ => none }
def fnExactGoodBankRow : OpenClaim := { program := "ytkfnejiiancmhai", sum := "365711090953b235e7559b4eb003318a59e654414b442e0d006b352ac9ff4810", func := "loop.example/g00522/laws.FnExactGoodBank", spec := "fnExactGoodBank", apart := false }
def FnExactGoodBankSaid : Prop := fnExactGoodBankRow.holds Try.pinned (OpenSpec.ofChange fnExactGoodBankSpec)

/-- ITS FALSE NEIGHBOUR: 'it returns false'. Refute it at one input. -/
def fnExactGoodBankWrong : ChangeSpec := { name := "fnExactGoodBank", fn := fun _ => fun
  | [d] => { results := [.lit (.bool false)], args := [d] }
  | _ => none }
def FnExactGoodBankWrongFalsely : Prop := fnExactGoodBankRow.holds Try.pinned (OpenSpec.ofChange fnExactGoodBankWrong)

/-- 'laws.FnExactStepBank': WHATEVER THE INPUT: true; the input reads as it did. -/
def fnExactStepBankSpec : ChangeSpec := { name := "fnExactStepBank", fn := fun _ => fun
  | [d1, d2] => { results := [.lit (.bool true)], args := [d1, d2] }
  | _ => none }
def fnExactStepBankRow : OpenClaim := { program := "ytkfnejiiancmhai", sum := "365711090953b235e7559b4eb003318a59e654414b442e0d006b352ac9ff4810", func := "loop.example/g00522/laws.FnExactStepBank", spec := "fnExactStepBank", apart := false }
def FnExactStepBankSaid : Prop := fnExactStepBankRow.holds Try.pinned (OpenSpec.ofChange fnExactStepBankSpec)

/-- ITS FALSE NEIGHBOUR: 'it returns false'. Refute it at one input. -/
def fnExactStepBankWrong : ChangeSpec := { name := "fnExactStepBank", fn := fun _ => fun
  | [d1, d2] => { results := [.lit (.bool false)], args := [d1, d2] }
  | _ => none }
def FnExactStepBankWrongFalsely : Prop := fnExactStepBankRow.holds Try.pinned (OpenSpec.ofChange fnExactStepBankWrong)

/- THE SECOND FORM. 'bulk': how many values and letters a reading holds, each counted each time it is reached (what is shared counts as often as it is met; a slice's spare places count too). A statement '..UptoSaid' is the law's where the arguments, and the package variables that the reading takes, are together of bulk at most 1048576: NARROWER than '..Said'. Prove '..Said' where nothing that the law and all that it calls make is longer than what came in: it says more and counts as full. Else prove '..UptoSaid'. A law counts once. -/
mutual
def uptoBulk {H : Type} : DataW H → Nat
  | .lit (.string bytes) => bytes.length + 1
  | .lit _ => 1
  | .nil => 1
  | .ptr d => uptoBulk d + 1
  | .slice elems spare => uptoBulkAll elems + uptoBulkAll spare + 1
  | .agg parts => uptoBulkAll parts + 1
  | .iface _ d => uptoBulk d + 1
  | .map entries => uptoBulkEntries entries + 1
  | .held _ => 1
def uptoBulkAll {H : Type} : List (DataW H) → Nat
  | [] => 0
  | d :: r => uptoBulk d + uptoBulkAll r
def uptoBulkEntries {H : Type} : List (Lit × DataW H) → Nat
  | [] => 0
  | x :: r => uptoBulkEntry x + uptoBulkEntries r
def uptoBulkEntry {H : Type} : Lit × DataW H → Nat
  | (.string bytes, d) => bytes.length + uptoBulk d + 1
  | (_, d) => uptoBulk d + 1
 end
def uptoSmall : (H : Type) → List (DataW H) → Bool := fun _ ds => decide (uptoBulkAll ds ≤ 1048576)
def OpenSpec.upto (s : _root_.Go.ChangeSpec) : _root_.Go.OpenSpec := { _root_.Go.OpenSpec.ofChange s with cond := some uptoSmall }

/-- 'laws.FnExactCutOf', WHERE WHAT IT READS IS OF BULK AT MOST 1048576: true; the input reads as it did. -/
def fnExactCutOfUptoRow : OpenClaim := { program := "ytkfnejiiancmhai", sum := "365711090953b235e7559b4eb003318a59e654414b442e0d006b352ac9ff4810", func := "loop.example/g00522/laws.FnExactCutOf", spec := "fnExactCutOf", apart := false, narrowed := true }
def FnExactCutOfUptoSaid : Prop := fnExactCutOfUptoRow.holds Try.pinned (OpenSpec.upto fnExactCutOfSpec)

/-- 'laws.FnExactJoinCuts', WHERE WHAT IT READS IS OF BULK AT MOST 1048576: true; the input reads as it did. -/
def fnExactJoinCutsUptoRow : OpenClaim := { program := "ytkfnejiiancmhai", sum := "365711090953b235e7559b4eb003318a59e654414b442e0d006b352ac9ff4810", func := "loop.example/g00522/laws.FnExactJoinCuts", spec := "fnExactJoinCuts", apart := false, narrowed := true }
def FnExactJoinCutsUptoSaid : Prop := fnExactJoinCutsUptoRow.holds Try.pinned (OpenSpec.upto fnExactJoinCutsSpec)

/-- 'laws.FnExactGoodBank', WHERE WHAT IT READS IS OF BULK AT MOST 1048576: true; the input reads as it did. -/
def fnExactGoodBankUptoRow : OpenClaim := { program := "ytkfnejiiancmhai", sum := "365711090953b235e7559b4eb003318a59e654414b442e0d006b352ac9ff4810", func := "loop.example/g00522/laws.FnExactGoodBank", spec := "fnExactGoodBank", apart := false, narrowed := true }
def FnExactGoodBankUptoSaid : Prop := fnExactGoodBankUptoRow.holds Try.pinned (OpenSpec.upto fnExactGoodBankSpec)

/-- 'laws.FnExactStepBank', WHERE WHAT IT READS IS OF BULK AT MOST 1048576: true; the input reads as it did. -/
def fnExactStepBankUptoRow : OpenClaim := { program := "ytkfnejiiancmhai", sum := "365711090953b235e7559b4eb003318a59e654414b442e0d006b352ac9ff4810", func := "loop.example/g00522/laws.FnExactStepBank", spec := "fnExactStepBank", apart := false, narrowed := true }
def FnExactStepBankUptoSaid : Prop := fnExactStepBankUptoRow.holds Try.pinned (OpenSpec.upto fnExactStepBankSpec)

end Rows
end Go.Proofs.Ytkfnejiiancmhai
