/-
  No cell of these rows narrows 'for every input' (looked for: loops, veiled, ifaces, maps, wideKeys, modest, calm, conditions, laid).
  DERIVED. THE GIVEN ROWS OF THIS SEAT. 6 by the template 'for every input the law returns true; each argument reads behind the call as it read before'; 0 by the template 'total and deterministic' (their statements: YthmekhhfihjclbdTotals.lean).
  GIVEN WITH THE SEED: the statements are not yours to turn. If you find one false, say at which input.
  Laid BY PROGRAM, IN A SANDBOX (cutbox-rows.mjs): the forced cells as the released guide's own fill.sh prints them over the translation 78e5740fce6c40f8… (all of the seat's roots in one cut). By AI agents, Wed Nov 11 2026. No macro, syntax, notation, axiom, sorry.
-/
import Derived.Test.YthmekhhfihjclbdChecked
import GoSem.Claim
import GoSem.ClaimJoined
import GoSem.ClaimMapViews
import Derived.JoinedTies
import Derived.KernelRfl
namespace Go.Proofs.Ythmekhhfihjclbd
/- THE CELL 'sum', in the pinned program and in every row, IS THE sha256 OF THE DUMP (.gsa) THAT YthmekhhfihjclbdProg.lean LOADS. Nothing in Lean hashes anything: it is a label: what it is worth is what the hold of that sum in a sandbox is worth. -/
noncomputable def Try.pinned : Pinned := { name := "ythmekhhfihjclbd", sum := "78e5740fce6c40f8dcbb89fa9bb39bce658d93c5dce28d0b542f0cfbd8ef95dc", checked := Try.checked }
namespace Rows
def none {H : Type} : Left H := { results := [], args := [] }

/-- 'laws.FnExactIsOverlap': WHATEVER THE INPUT: true; the input reads as it did. -/
def fnExactIsOverlapSpec : ChangeSpec := { name := "fnExactIsOverlap", fn := fun _ => fun
  | [d1, d2, d3] => { results := [.lit (.bool true)], args := [d1, d2, d3] }
  | _ => none }
def fnExactIsOverlapRow : OpenClaim := { program := "ythmekhhfihjclbd", sum := "78e5740fce6c40f8dcbb89fa9bb39bce658d93c5dce28d0b542f0cfbd8ef95dc", func := "loop.example/g00522/laws.FnExactIsOverlap", spec := "fnExactIsOverlap", apart := false }
def FnExactIsOverlapSaid : Prop := fnExactIsOverlapRow.holds Try.pinned (OpenSpec.ofChange fnExactIsOverlapSpec)

/-- ITS FALSE NEIGHBOUR: 'it returns false'. Refute it at one input. -/
def fnExactIsOverlapWrong : ChangeSpec := { name := "fnExactIsOverlap", fn := fun _ => fun
  | [d1, d2, d3] => { results := [.lit (.bool false)], args := [d1, d2, d3] }
  | _ => none }
def FnExactIsOverlapWrongFalsely : Prop := fnExactIsOverlapRow.holds Try.pinned (OpenSpec.ofChange fnExactIsOverlapWrong)

/-- 'laws.FnExactNewRepl': WHATEVER THE INPUT: true; the input reads as it did. -/
def fnExactNewReplSpec : ChangeSpec := { name := "fnExactNewRepl", fn := fun _ => fun
  | [d] => { results := [.lit (.bool true)], args := [d] }
  | _ => none }
def fnExactNewReplRow : OpenClaim := { program := "ythmekhhfihjclbd", sum := "78e5740fce6c40f8dcbb89fa9bb39bce658d93c5dce28d0b542f0cfbd8ef95dc", func := "loop.example/g00522/laws.FnExactNewRepl", spec := "fnExactNewRepl", apart := false }
def FnExactNewReplSaid : Prop := fnExactNewReplRow.holds Try.pinned (OpenSpec.ofChange fnExactNewReplSpec)

/-- ITS FALSE NEIGHBOUR: 'it returns false'. Refute it at one input. -/
def fnExactNewReplWrong : ChangeSpec := { name := "fnExactNewRepl", fn := fun _ => fun
  | [d] => { results := [.lit (.bool false)], args := [d] }
  | _ => none }
def FnExactNewReplWrongFalsely : Prop := fnExactNewReplRow.holds Try.pinned (OpenSpec.ofChange fnExactNewReplWrong)

/-- 'laws.FnExactGoodRepl': WHATEVER THE INPUT: true; the input reads as it did. -/
def fnExactGoodReplSpec : ChangeSpec := { name := "fnExactGoodRepl", fn := fun _ => fun
  | [d] => { results := [.lit (.bool true)], args := [d] }
  | _ => none }
def fnExactGoodReplRow : OpenClaim := { program := "ythmekhhfihjclbd", sum := "78e5740fce6c40f8dcbb89fa9bb39bce658d93c5dce28d0b542f0cfbd8ef95dc", func := "loop.example/g00522/laws.FnExactGoodRepl", spec := "fnExactGoodRepl", apart := false }
def FnExactGoodReplSaid : Prop := fnExactGoodReplRow.holds Try.pinned (OpenSpec.ofChange fnExactGoodReplSpec)

/-- ITS FALSE NEIGHBOUR: 'it returns false'. Refute it at one input. -/
def fnExactGoodReplWrong : ChangeSpec := { name := "fnExactGoodRepl", fn := fun _ => fun
  | [d] => { results := [.lit (.bool false)], args := [d] }
  | _ => none }
def FnExactGoodReplWrongFalsely : Prop := fnExactGoodReplRow.holds Try.pinned (OpenSpec.ofChange fnExactGoodReplWrong)

/-- 'laws.FnExactStepRepl': WHATEVER THE INPUT: true; the input reads as it did. -/
def fnExactStepReplSpec : ChangeSpec := { name := "fnExactStepRepl", fn := fun _ => fun
  | [d1, d2] => { results := [.lit (.bool true)], args := [d1, d2] }
  | _ => none }
def fnExactStepReplRow : OpenClaim := { program := "ythmekhhfihjclbd", sum := "78e5740fce6c40f8dcbb89fa9bb39bce658d93c5dce28d0b542f0cfbd8ef95dc", func := "loop.example/g00522/laws.FnExactStepRepl", spec := "fnExactStepRepl", unfollowed := true, recurses := true, apart := false }
def FnExactStepReplSaid : Prop := fnExactStepReplRow.holds Try.pinned (OpenSpec.ofChange fnExactStepReplSpec)

/-- ITS FALSE NEIGHBOUR: 'it returns false'. Refute it at one input. -/
def fnExactStepReplWrong : ChangeSpec := { name := "fnExactStepRepl", fn := fun _ => fun
  | [d1, d2] => { results := [.lit (.bool false)], args := [d1, d2] }
  | _ => none }
def FnExactStepReplWrongFalsely : Prop := fnExactStepReplRow.holds Try.pinned (OpenSpec.ofChange fnExactStepReplWrong)

/-- 'laws.FnExactPlayRepl': WHATEVER THE INPUT: true; the input reads as it did. -/
def fnExactPlayReplSpec : ChangeSpec := { name := "fnExactPlayRepl", fn := fun _ => fun
  | [d1, d2] => { results := [.lit (.bool true)], args := [d1, d2] }
  | _ => none }
def fnExactPlayReplRow : OpenClaim := { program := "ythmekhhfihjclbd", sum := "78e5740fce6c40f8dcbb89fa9bb39bce658d93c5dce28d0b542f0cfbd8ef95dc", func := "loop.example/g00522/laws.FnExactPlayRepl", spec := "fnExactPlayRepl", unfollowed := true, recurses := true, apart := false }
def FnExactPlayReplSaid : Prop := fnExactPlayReplRow.holds Try.pinned (OpenSpec.ofChange fnExactPlayReplSpec)

/-- ITS FALSE NEIGHBOUR: 'it returns false'. Refute it at one input. -/
def fnExactPlayReplWrong : ChangeSpec := { name := "fnExactPlayRepl", fn := fun _ => fun
  | [d1, d2] => { results := [.lit (.bool false)], args := [d1, d2] }
  | _ => none }
def FnExactPlayReplWrongFalsely : Prop := fnExactPlayReplRow.holds Try.pinned (OpenSpec.ofChange fnExactPlayReplWrong)

/-- 'laws.FnExactCertainLength': WHATEVER THE INPUT: true; the input reads as it did. -/
def fnExactCertainLengthSpec : ChangeSpec := { name := "fnExactCertainLength", fn := fun _ => fun
  | [d] => { results := [.lit (.bool true)], args := [d] }
  | _ => none }
def fnExactCertainLengthRow : OpenClaim := { program := "ythmekhhfihjclbd", sum := "78e5740fce6c40f8dcbb89fa9bb39bce658d93c5dce28d0b542f0cfbd8ef95dc", func := "loop.example/g00522/laws.FnExactCertainLength", spec := "fnExactCertainLength", apart := false }
def FnExactCertainLengthSaid : Prop := fnExactCertainLengthRow.holds Try.pinned (OpenSpec.ofChange fnExactCertainLengthSpec)

/-- ITS FALSE NEIGHBOUR: 'it returns false'. Refute it at one input. -/
def fnExactCertainLengthWrong : ChangeSpec := { name := "fnExactCertainLength", fn := fun _ => fun
  | [d] => { results := [.lit (.bool false)], args := [d] }
  | _ => none }
def FnExactCertainLengthWrongFalsely : Prop := fnExactCertainLengthRow.holds Try.pinned (OpenSpec.ofChange fnExactCertainLengthWrong)

/- THE SECOND FORM. 'bulk': how many values and letters a reading holds, each counted each time it is reached (what is shared counts as often as it is met; a slice's spare places count too). A statement '..UptoSaid' is the law's where the arguments, and the package variables that the reading takes, are together of bulk at most 1048576: NARROWER than '..Said'. Prove '..Said' where nothing that the law and all that it calls make is longer than what came in: it says more and counts as full. Else prove '..UptoSaid'. A law counts once. -/
mutual
def uptoBulk {H : Type} : DataW H → Nat
  | .lit (.string bytes) => bytes.length + 1
  | .lit _ => 1
  | .nil => 1
  | .ptr d => uptoBulk d + 1
  | .slice elems spare => uptoBulkAll elems + uptoBulkAll spare + 1
  | .agg parts => uptoBulkAll parts + 1
  | .iface _ d => uptoBulk d + 1
  | .map entries => uptoBulkEntries entries + 1
  | .held _ => 1
def uptoBulkAll {H : Type} : List (DataW H) → Nat
  | [] => 0
  | d :: r => uptoBulk d + uptoBulkAll r
def uptoBulkEntries {H : Type} : List (Lit × DataW H) → Nat
  | [] => 0
  | x :: r => uptoBulkEntry x + uptoBulkEntries r
def uptoBulkEntry {H : Type} : Lit × DataW H → Nat
  | (.string bytes, d) => bytes.length + uptoBulk d + 1
  | (_, d) => uptoBulk d + 1
 end
def uptoSmall : (H : Type) → List (DataW H) → Bool := fun _ ds => decide (uptoBulkAll ds ≤ 1048576)
def OpenSpec.upto (s : _root_.Go.ChangeSpec) : _root_.Go.OpenSpec := { _root_.Go.OpenSpec.ofChange s with cond := some uptoSmall }

/-- 'laws.FnExactIsOverlap', WHERE WHAT IT READS IS OF BULK AT MOST 1048576: true; the input reads as it did. -/
def fnExactIsOverlapUptoRow : OpenClaim := { program := "ythmekhhfihjclbd", sum := "78e5740fce6c40f8dcbb89fa9bb39bce658d93c5dce28d0b542f0cfbd8ef95dc", func := "loop.example/g00522/laws.FnExactIsOverlap", spec := "fnExactIsOverlap", apart := false, narrowed := true }
def FnExactIsOverlapUptoSaid : Prop := fnExactIsOverlapUptoRow.holds Try.pinned (OpenSpec.upto fnExactIsOverlapSpec)

/-- 'laws.FnExactNewRepl', WHERE WHAT IT READS IS OF BULK AT MOST 1048576: true; the input reads as it did. -/
def fnExactNewReplUptoRow : OpenClaim := { program := "ythmekhhfihjclbd", sum := "78e5740fce6c40f8dcbb89fa9bb39bce658d93c5dce28d0b542f0cfbd8ef95dc", func := "loop.example/g00522/laws.FnExactNewRepl", spec := "fnExactNewRepl", apart := false, narrowed := true }
def FnExactNewReplUptoSaid : Prop := fnExactNewReplUptoRow.holds Try.pinned (OpenSpec.upto fnExactNewReplSpec)

/-- 'laws.FnExactGoodRepl', WHERE WHAT IT READS IS OF BULK AT MOST 1048576: true; the input reads as it did. -/
def fnExactGoodReplUptoRow : OpenClaim := { program := "ythmekhhfihjclbd", sum := "78e5740fce6c40f8dcbb89fa9bb39bce658d93c5dce28d0b542f0cfbd8ef95dc", func := "loop.example/g00522/laws.FnExactGoodRepl", spec := "fnExactGoodRepl", apart := false, narrowed := true }
def FnExactGoodReplUptoSaid : Prop := fnExactGoodReplUptoRow.holds Try.pinned (OpenSpec.upto fnExactGoodReplSpec)

/-- 'laws.FnExactStepRepl', WHERE WHAT IT READS IS OF BULK AT MOST 1048576: true; the input reads as it did. -/
def fnExactStepReplUptoRow : OpenClaim := { program := "ythmekhhfihjclbd", sum := "78e5740fce6c40f8dcbb89fa9bb39bce658d93c5dce28d0b542f0cfbd8ef95dc", func := "loop.example/g00522/laws.FnExactStepRepl", spec := "fnExactStepRepl", unfollowed := true, recurses := true, apart := false, narrowed := true }
def FnExactStepReplUptoSaid : Prop := fnExactStepReplUptoRow.holds Try.pinned (OpenSpec.upto fnExactStepReplSpec)

/-- 'laws.FnExactPlayRepl', WHERE WHAT IT READS IS OF BULK AT MOST 1048576: true; the input reads as it did. -/
def fnExactPlayReplUptoRow : OpenClaim := { program := "ythmekhhfihjclbd", sum := "78e5740fce6c40f8dcbb89fa9bb39bce658d93c5dce28d0b542f0cfbd8ef95dc", func := "loop.example/g00522/laws.FnExactPlayRepl", spec := "fnExactPlayRepl", unfollowed := true, recurses := true, apart := false, narrowed := true }
def FnExactPlayReplUptoSaid : Prop := fnExactPlayReplUptoRow.holds Try.pinned (OpenSpec.upto fnExactPlayReplSpec)

/-- 'laws.FnExactCertainLength', WHERE WHAT IT READS IS OF BULK AT MOST 1048576: true; the input reads as it did. -/
def fnExactCertainLengthUptoRow : OpenClaim := { program := "ythmekhhfihjclbd", sum := "78e5740fce6c40f8dcbb89fa9bb39bce658d93c5dce28d0b542f0cfbd8ef95dc", func := "loop.example/g00522/laws.FnExactCertainLength", spec := "fnExactCertainLength", apart := false, narrowed := true }
def FnExactCertainLengthUptoSaid : Prop := fnExactCertainLengthUptoRow.holds Try.pinned (OpenSpec.upto fnExactCertainLengthSpec)

end Rows
end Go.Proofs.Ythmekhhfihjclbd
