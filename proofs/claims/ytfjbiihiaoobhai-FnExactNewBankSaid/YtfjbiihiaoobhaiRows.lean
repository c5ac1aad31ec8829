/-
  No cell of these rows narrows 'for every input' (looked for: loops, veiled, ifaces, maps, wideKeys, modest, calm, conditions, laid).
  DERIVED. THE GIVEN ROWS OF THIS SEAT. 6 by the template 'for every input the law returns true; each argument reads behind the call as it read before'; 0 by the template 'total and deterministic' (their statements: YtfjbiihiaoobhaiTotals.lean).
  GIVEN WITH THE SEED: the statements are not yours to turn. If you find one false, say at which input.
  Laid BY PROGRAM, IN A SANDBOX (cutbox-rows.mjs): the forced cells as the released guide's own fill.sh prints them over the translation 16e8958649ee93da… (all of the seat's roots in one cut). By AI agents, Wed Nov 11 2026. No macro, syntax, notation, axiom, sorry.
-/
import Derived.Test.YtfjbiihiaoobhaiChecked
import GoSem.Claim
import GoSem.ClaimJoined
import GoSem.ClaimMapViews
import Derived.JoinedTies
import Derived.KernelRfl
namespace Go.Proofs.Ytfjbiihiaoobhai
/- THE CELL 'sum', in the pinned program and in every row, IS THE sha256 OF THE DUMP (.gsa) THAT YtfjbiihiaoobhaiProg.lean LOADS. Nothing in Lean hashes anything: it is a label: what it is worth is what the hold of that sum in a sandbox is worth. -/
noncomputable def Try.pinned : Pinned := { name := "ytfjbiihiaoobhai", sum := "16e8958649ee93da9c59d9653440640f27070243503d14818c46613ba707d04d", checked := Try.checked }
namespace Rows
def none {H : Type} : Left H := { results := [], args := [] }

/-- 'laws.FnExactCutOf': WHATEVER THE INPUT: true; the input reads as it did. -/
def fnExactCutOfSpec : ChangeSpec := { name := "fnExactCutOf", fn := fun _ => fun
  | [d1, d2, d3] => { results := [.lit (.bool true)], args := [d1, d2, d3] }
  | _ => none }
def fnExactCutOfRow : OpenClaim := { program := "ytfjbiihiaoobhai", sum := "16e8958649ee93da9c59d9653440640f27070243503d14818c46613ba707d04d", func := "loop.example/g00522/laws.FnExactCutOf", spec := "fnExactCutOf", apart := false }
def FnExactCutOfSaid : Prop := fnExactCutOfRow.holds Try.pinned (OpenSpec.ofChange fnExactCutOfSpec)

/-- ITS FALSE NEIGHBOUR: 'it returns false'. Refute it at one input. -/
def fnExactCutOfWrong : ChangeSpec := { name := "fnExactCutOf", fn := fun _ => fun
  | [d1, d2, d3] => { results := [.lit (.bool false)], args := [d1, d2, d3] }
  | _ => none }
def FnExactCutOfWrongFalsely : Prop := fnExactCutOfRow.holds Try.pinned (OpenSpec.ofChange fnExactCutOfWrong)

/-- 'laws.FnExactJoinCuts': WHATEVER THE INPUT: true; the input reads as it did. -/
def fnExactJoinCutsSpec : ChangeSpec := { name := "fnExactJoinCuts", fn := fun _ => fun
  | [d1, d2] => { results := [.lit (.bool true)], args := [d1, d2] }
  | _ => none }
def fnExactJoinCutsRow : OpenClaim := { program := "ytfjbiihiaoobhai", sum := "16e8958649ee93da9c59d9653440640f27070243503d14818c46613ba707d04d", func := "loop.example/g00522/laws.FnExactJoinCuts", spec := "fnExactJoinCuts", apart := false }
def FnExactJoinCutsSaid : Prop := fnExactJoinCutsRow.holds Try.pinned (OpenSpec.ofChange fnExactJoinCutsSpec)

/-- ITS FALSE NEIGHBOUR: 'it returns false'. Refute it at one input. -/
def fnExactJoinCutsWrong : ChangeSpec := { name := "fnExactJoinCuts", fn := fun _ => fun
  | [d1, d2] => { results := [.lit (.bool false)], args := [d1, d2] }
  | _ => none }
def FnExactJoinCutsWrongFalsely : Prop := fnExactJoinCutsRow.holds Try.pinned (OpenSpec.ofChange fnExactJoinCutsWrong)

/-- 'laws.FnExactNewBank': WHATEVER THE INPUT: true; the input reads as it did. -/
def fnExactNewBankSpec : ChangeSpec := { name := "fnExactNewBank", fn := fun _ => fun
  | [d] => { results := [.lit (.bool true)], args := [d] }
  | _ => none }
def fnExactNewBankRow : OpenClaim := { program := "ytfjbiihiaoobhai", sum := "16e8958649ee93da9c59d9653440640f27070243503d14818c46613ba707d04d", func := "loop.example/g00522/laws.FnExactNewBank", spec := "fnExactNewBank", apart := false }
def FnExactNewBankSaid : Prop := fnExactNewBankRow.holds Try.pinned (OpenSpec.ofChange fnExactNewBankSpec)

/-- ITS FALSE NEIGHBOUR: 'it returns false'. Refute it at one input. -/
def fnExactNewBankWrong : ChangeSpec := { name := "fnExactNewBank", fn := fun _ => fun
  | [d] => { results := [.lit (.bool false)], args := [d] }
  | _ => none }
def FnExactNewBankWrongFalsely : Prop := fnExactNewBankRow.holds Try.pinned (OpenSpec.ofChange fnExactNewBankWrong)

/-- 'laws.FnExactGoodBank': WHATEVER THE INPUT: true; the input reads as it did. -/
def fnExactGoodBankSpec : ChangeSpec := { name := "fnExactGoodBank", fn := fun _ => fun
  | [d] => { results := [.lit (.bool true)], args := [d] }
  | _ => none }
def fnExactGoodBankRow : OpenClaim := { program := "ytfjbiihiaoobhai", sum := "16e8958649ee93da9c59d9653440640f27070243503d14818c46613ba707d04d", func := "loop.example/g00522/laws.FnExactGoodBank", spec := "fnExactGoodBank", unfollowed := true, recurses := true, apart := false }
def FnExactGoodBankSaid : Prop := fnExactGoodBankRow.holds Try.pinned (OpenSpec.ofChange fnExactGoodBankSpec)

/-- ITS FALSE NEIGHBOUR: 'it returns false'. Refute it at one input. -/
def fnExactGoodBankWrong : ChangeSpec := { name := "fnExactGoodBank", fn := fun _ => fun
  | [d] => { results := [.lit (.bool false)], args := [d] }
  | _ => none }
def FnExactGoodBankWrongFalsely : Prop := fnExactGoodBankRow.holds Try.pinned (OpenSpec.ofChange fnExactGoodBankWrong)

/-- 'laws.FnExactStepBank': WHATEVER THE INPUT: true; the input reads as it did. -/
def fnExactStepBankSpec : ChangeSpec := { name := "fnExactStepBank", fn := fun _ => fun
  | [d1, d2] => { results := [.lit (.bool true)], args := [d1, d2] }
  | _ => none }
def fnExactStepBankRow : OpenClaim := { program := "ytfjbiihiaoobhai", sum := "16e8958649ee93da9c59d9653440640f27070243503d14818c46613ba707d04d", func := "loop.example/g00522/laws.FnExactStepBank", spec := "fnExactStepBank", unfollowed := true, recurses := true, apart := false }
def FnExactStepBankSaid : Prop := fnExactStepBankRow.holds Try.pinned (OpenSpec.ofChange fnExactStepBankSpec)

/-- ITS FALSE NEIGHBOUR: 'it returns false'. Refute it at one input. -/
def fnExactStepBankWrong : ChangeSpec := { name := "fnExactStepBank", fn := fun _ => fun
  | [d1, d2] => { results := [.lit (.bool false)], args := [d1, d2] }
  | _ => none }
def FnExactStepBankWrongFalsely : Prop := fnExactStepBankRow.holds Try.pinned (OpenSpec.ofChange fnExactStepBankWrong)

/-- 'laws.FnExactPlayBank': WHATEVER THE INPUT: true; the input reads as it did. -/
def fnExactPlayBankSpec : ChangeSpec := { name := "fnExactPlayBank", fn := fun _ => fun
  | [d1, d2] => { results := [.lit (.bool true)], args := [d1, d2] }
  | _ => none }
def fnExactPlayBankRow : OpenClaim := { program := "ytfjbiihiaoobhai", sum := "16e8958649ee93da9c59d9653440640f27070243503d14818c46613ba707d04d", func := "loop.example/g00522/laws.FnExactPlayBank", spec := "fnExactPlayBank", unfollowed := true, recurses := true, apart := false }
def FnExactPlayBankSaid : Prop := fnExactPlayBankRow.holds Try.pinned (OpenSpec.ofChange fnExactPlayBankSpec)

/-- ITS FALSE NEIGHBOUR: 'it returns false'. Refute it at one input. -/
def fnExactPlayBankWrong : ChangeSpec := { name := "fnExactPlayBank", fn := fun _ => fun
  | [d1, d2] => { results := [.lit (.bool false)], args := [d1, d2] }
  | _ => none }
def FnExactPlayBankWrongFalsely : Prop := fnExactPlayBankRow.holds Try.pinned (OpenSpec.ofChange fnExactPlayBankWrong)

/- THE SECOND FORM. 'bulk': how many values and letters a reading holds, each counted each time it is reached (what is shared counts as often as it is met; a slice's spare places count too). A statement '..UptoSaid' is the law's where the arguments, and the package variables that the reading takes, are together of bulk at most 1048576: NARROWER than '..Said'. Prove '..Said' where nothing that the law and all that it calls make is longer than what came in: it says more and counts as full. Else prove '..UptoSaid'. A law counts once. -/
mutual
def uptoBulk {H : Type} : DataW H → Nat
  | .lit (.string bytes) => bytes.length + 1
  | .lit _ => 1
  | .nil => 1
  | .ptr d => uptoBulk d + 1
  | .slice elems spare => uptoBulkAll elems + uptoBulkAll spare + 1
  | .agg parts => uptoBulkAll parts + 1
  | .iface _ d => uptoBulk d + 1
  | .map entries => uptoBulkEntries entries + 1
  | .held _ => 1
def uptoBulkAll {H : Type} : List (DataW H) → Nat
  | [] => 0
  | d :: r => uptoBulk d + uptoBulkAll r
def uptoBulkEntries {H : Type} : List (Lit × DataW H) → Nat
  | [] => 0
  | x :: r => uptoBulkEntry x + uptoBulkEntries r
def uptoBulkEntry {H : Type} : Lit × DataW H → Nat
  | (.string bytes, d) => bytes.length + uptoBulk d + 1
  | (_, d) => uptoBulk d + 1
 end
def uptoSmall : (H : Type) → List (DataW H) → Bool := fun _ ds => decide (uptoBulkAll ds ≤ 1048576)
def OpenSpec.upto (s : _root_.Go.ChangeSpec) : _root_.Go.OpenSpec := { _root_.Go.OpenSpec.ofChange s with cond := some uptoSmall }

/-- 'laws.FnExactCutOf', WHERE WHAT IT READS IS OF BULK AT MOST 1048576: true; the input reads as it did. -/
def fnExactCutOfUptoRow : OpenClaim := { program := "ytfjbiihiaoobhai", sum := "16e8958649ee93da9c59d9653440640f27070243503d14818c46613ba707d04d", func := "loop.example/g00522/laws.FnExactCutOf", spec := "fnExactCutOf", apart := false, narrowed := true }
def FnExactCutOfUptoSaid : Prop := fnExactCutOfUptoRow.holds Try.pinned (OpenSpec.upto fnExactCutOfSpec)

/-- 'laws.FnExactJoinCuts', WHERE WHAT IT READS IS OF BULK AT MOST 1048576: true; the input reads as it did. -/
def fnExactJoinCutsUptoRow : OpenClaim := { program := "ytfjbiihiaoobhai", sum := "16e8958649ee93da9c59d9653440640f27070243503d14818c46613ba707d04d", func := "loop.example/g00522/laws.FnExactJoinCuts", spec := "fnExactJoinCuts", apart := false, narrowed := true }
def FnExactJoinCutsUptoSaid : Prop := fnExactJoinCutsUptoRow.holds Try.pinned (OpenSpec.upto fnExactJoinCutsSpec)

/-- 'laws.FnExactNewBank', WHERE WHAT IT READS IS OF BULK AT MOST 1048576: true; the input reads as it did. -/
def fnExactNewBankUptoRow : OpenClaim := { program := "ytfjbiihiaoobhai", sum := "16e8958649ee93da9c59d9653440640f27070243503d14818c46613ba707d04d", func := "loop.example/g00522/laws.FnExactNewBank", spec := "fnExactNewBank", apart := false, narrowed := true }
def FnExactNewBankUptoSaid : Prop := fnExactNewBankUptoRow.holds Try.pinned (OpenSpec.upto fnExactNewBankSpec)

/-- 'laws.FnExactGoodBank', WHERE WHAT IT READS IS OF BULK AT MOST 1048576: true; the input reads as it did. -/
def fnExactGoodBankUptoRow : OpenClaim := { program := "ytfjbiihiaoobhai", sum := "16e8958649ee93da9c59d9653440640f27070243503d14818c46613ba707d04d", func := "loop.example/g00522/laws.FnExactGoodBank", spec := "fnExactGoodBank", unfollowed := true, recurses := true, apart := false, narrowed := true }
def FnExactGoodBankUptoSaid : Prop := fnExactGoodBankUptoRow.holds Try.pinned (OpenSpec.upto fnExactGoodBankSpec)

/-- 'laws.FnExactStepBank', WHERE WHAT IT READS IS OF BULK AT MOST 1048576: true; the input reads as it did. -/
def fnExactStepBankUptoRow : OpenClaim := { program := "ytfjbiihiaoobhai", sum := "16e8958649ee93da9c59d9653440640f27070243503d14818c46613ba707d04d", func := "loop.example/g00522/laws.FnExactStepBank", spec := "fnExactStepBank", unfollowed := true, recurses := true, apart := false, narrowed := true }
def FnExactStepBankUptoSaid : Prop := fnExactStepBankUptoRow.holds Try.pinned (OpenSpec.upto fnExactStepBankSpec)

/-- 'laws.FnExactPlayBank', WHERE WHAT IT READS IS OF BULK AT MOST 1048576: true; the input reads as it did. -/
def fnExactPlayBankUptoRow : OpenClaim := { program := "ytfjbiihiaoobhai", sum := "16e8958649ee93da9c59d9653440640f27070243503d14818c46613ba707d04d", func := "loop.example/g00522/laws.FnExactPlayBank", spec := "fnExactPlayBank", unfollowed := true, recurses := true, apart := false, narrowed := true }
def FnExactPlayBankUptoSaid : Prop := fnExactPlayBankUptoRow.holds Try.pinned (OpenSpec.upto fnExactPlayBankSpec)

end Rows
end Go.Proofs.Ytfjbiihiaoobhai
