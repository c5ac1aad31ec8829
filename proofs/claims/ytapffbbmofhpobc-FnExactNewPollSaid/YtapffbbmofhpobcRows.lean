/-
  No cell of these rows narrows 'for every input' (looked for: loops, veiled, ifaces, maps, wideKeys, modest, calm, conditions, laid).
  DERIVED. THE GIVEN ROWS OF THIS SEAT. 6 by the template 'for every input the law returns true; each argument reads behind the call as it read before'; 0 by the template 'total and deterministic' (their statements: YtapffbbmofhpobcTotals.lean).
  GIVEN WITH THE SEED: the statements are not yours to turn. If you find one false, say at which input.
  Laid BY PROGRAM, IN A SANDBOX (cutbox-rows.mjs): the forced cells as the released guide's own fill.sh prints them over the translation 1a579d4b6e819e73… (all of the seat's roots in one cut). By AI agents, Wed Nov 11 2026. No macro, syntax, notation, axiom, sorry.
-/
import Derived.Test.YtapffbbmofhpobcChecked
import GoSem.Claim
import GoSem.ClaimJoined
import GoSem.ClaimMapViews
import Derived.JoinedTies
import Derived.KernelRfl
namespace Go.Proofs.Ytapffbbmofhpobc
/- THE CELL 'sum', in the pinned program and in every row, IS THE sha256 OF THE DUMP (.gsa) THAT YtapffbbmofhpobcProg.lean LOADS. Nothing in Lean hashes anything: it is a label: what it is worth is what the hold of that sum in a sandbox is worth. -/
noncomputable def Try.pinned : Pinned := { name := "ytapffbbmofhpobc", sum := "1a579d4b6e819e73cfaa8e33f85a86fad0a3ce4a3cdc3e47f1cd90b51073cdd2", checked := Try.checked }
namespace Rows
def none {H : Type} : Left H := { results := [], args := [] }

/-- 'laws.FnExactNewPoll': WHATEVER THE INPUT: true; the input reads as it did. -/
def fnExactNewPollSpec : ChangeSpec := { name := "fnExactNewPoll", fn := fun _ => fun
  | [d] => { results := [.lit (.bool true)], args := [d] }
  | _ => none }
def fnExactNewPollRow : OpenClaim := { program := "ytapffbbmofhpobc", sum := "1a579d4b6e819e73cfaa8e33f85a86fad0a3ce4a3cdc3e47f1cd90b51073cdd2", func := "loop.example/g00522/laws.FnExactNewPoll", spec := "fnExactNewPoll", apart := false }
def FnExactNewPollSaid : Prop := fnExactNewPollRow.holds Try.pinned (OpenSpec.ofChange fnExactNewPollSpec)

/-- ITS FALSE NEIGHBOUR: 'it returns false'. Refute it at one input. -/
def fnExactNewPollWrong : ChangeSpec := { name := "fnExactNewPoll", fn := fun _ => fun
  | [d] => { results := [.lit (.bool false)], args := [d] }
  | _ => none }
def FnExactNewPollWrongFalsely : Prop := fnExactNewPollRow.holds Try.pinned (OpenSpec.ofChange fnExactNewPollWrong)

/-- 'laws.FnExactGoodPoll': WHATEVER THE INPUT: true; the input reads as it did. -/
def fnExactGoodPollSpec : ChangeSpec := { name := "fnExactGoodPoll", fn := fun _ => fun
  | [d] => { results := [.lit (.bool true)], args := [d] }
  | _ => none }
def fnExactGoodPollRow : OpenClaim := { program := "ytapffbbmofhpobc", sum := "1a579d4b6e819e73cfaa8e33f85a86fad0a3ce4a3cdc3e47f1cd90b51073cdd2", func := "loop.example/g00522/laws.FnExactGoodPoll", spec := "fnExactGoodPoll", apart := false }
def FnExactGoodPollSaid : Prop := fnExactGoodPollRow.holds Try.pinned (OpenSpec.ofChange fnExactGoodPollSpec)

/-- ITS FALSE NEIGHBOUR: 'it returns false'. Refute it at one input. -/
def fnExactGoodPollWrong : ChangeSpec := { name := "fnExactGoodPoll", fn := fun _ => fun
  | [d] => { results := [.lit (.bool false)], args := [d] }
  | _ => none }
def FnExactGoodPollWrongFalsely : Prop := fnExactGoodPollRow.holds Try.pinned (OpenSpec.ofChange fnExactGoodPollWrong)

/-- 'laws.FnExactStepPoll': WHATEVER THE INPUT: true; the input reads as it did. -/
def fnExactStepPollSpec : ChangeSpec := { name := "fnExactStepPoll", fn := fun _ => fun
  | [d1, d2] => { results := [.lit (.bool true)], args := [d1, d2] }
  | _ => none }
def fnExactStepPollRow : OpenClaim := { program := "ytapffbbmofhpobc", sum := "1a579d4b6e819e73cfaa8e33f85a86fad0a3ce4a3cdc3e47f1cd90b51073cdd2", func := "loop.example/g00522/laws.FnExactStepPoll", spec := "fnExactStepPoll", apart := false }
def FnExactStepPollSaid : Prop := fnExactStepPollRow.holds Try.pinned (OpenSpec.ofChange fnExactStepPollSpec)

/-- ITS FALSE NEIGHBOUR: 'it returns false'. Refute it at one input. -/
def fnExactStepPollWrong : ChangeSpec := { name := "fnExactStepPoll", fn := fun _ => fun
  | [d1, d2] => { results := [.lit (.bool false)], args := [d1, d2] }
  | _ => none }
def FnExactStepPollWrongFalsely : Prop := fnExactStepPollRow.holds Try.pinned (OpenSpec.ofChange fnExactStepPollWrong)

/-- 'laws.FnExactPlayPoll': WHATEVER THE INPUT: true; the input reads as it did. -/
def fnExactPlayPollSpec : ChangeSpec := { name := "fnExactPlayPoll", fn := fun _ => fun
  | [d1, d2] => { results := [.lit (.bool true)], args := [d1, d2] }
  | _ => none }
def fnExactPlayPollRow : OpenClaim := { program := "ytapffbbmofhpobc", sum := "1a579d4b6e819e73cfaa8e33f85a86fad0a3ce4a3cdc3e47f1cd90b51073cdd2", func := "loop.example/g00522/laws.FnExactPlayPoll", spec := "fnExactPlayPoll", apart := false }
def FnExactPlayPollSaid : Prop := fnExactPlayPollRow.holds Try.pinned (OpenSpec.ofChange fnExactPlayPollSpec)

/-- ITS FALSE NEIGHBOUR: 'it returns false'. Refute it at one input. -/
def fnExactPlayPollWrong : ChangeSpec := { name := "fnExactPlayPoll", fn := fun _ => fun
  | [d1, d2] => { results := [.lit (.bool false)], args := [d1, d2] }
  | _ => none }
def FnExactPlayPollWrongFalsely : Prop := fnExactPlayPollRow.holds Try.pinned (OpenSpec.ofChange fnExactPlayPollWrong)

/-- 'laws.FnExactLeaderOf': WHATEVER THE INPUT: true; the input reads as it did. -/
def fnExactLeaderOfSpec : ChangeSpec := { name := "fnExactLeaderOf", fn := fun _ => fun
  | [d1, d2] => { results := [.lit (.bool true)], args := [d1, d2] }
  | _ => none }
def fnExactLeaderOfRow : OpenClaim := { program := "ytapffbbmofhpobc", sum := "1a579d4b6e819e73cfaa8e33f85a86fad0a3ce4a3cdc3e47f1cd90b51073cdd2", func := "loop.example/g00522/laws.FnExactLeaderOf", spec := "fnExactLeaderOf", apart := false }
def FnExactLeaderOfSaid : Prop := fnExactLeaderOfRow.holds Try.pinned (OpenSpec.ofChange fnExactLeaderOfSpec)

/-- ITS FALSE NEIGHBOUR: 'it returns false'. Refute it at one input. -/
def fnExactLeaderOfWrong : ChangeSpec := { name := "fnExactLeaderOf", fn := fun _ => fun
  | [d1, d2] => { results := [.lit (.bool false)], args := [d1, d2] }
  | _ => none }
def FnExactLeaderOfWrongFalsely : Prop := fnExactLeaderOfRow.holds Try.pinned (OpenSpec.ofChange fnExactLeaderOfWrong)

/-- 'laws.FnExactMajorityOf': WHATEVER THE INPUT: true; the input reads as it did. -/
def fnExactMajorityOfSpec : ChangeSpec := { name := "fnExactMajorityOf", fn := fun _ => fun
  | [d] => { results := [.lit (.bool true)], args := [d] }
  | _ => none }
def fnExactMajorityOfRow : OpenClaim := { program := "ytapffbbmofhpobc", sum := "1a579d4b6e819e73cfaa8e33f85a86fad0a3ce4a3cdc3e47f1cd90b51073cdd2", func := "loop.example/g00522/laws.FnExactMajorityOf", spec := "fnExactMajorityOf", apart := false }
def FnExactMajorityOfSaid : Prop := fnExactMajorityOfRow.holds Try.pinned (OpenSpec.ofChange fnExactMajorityOfSpec)

/-- ITS FALSE NEIGHBOUR: 'it returns false'. Refute it at one input. -/
def fnExactMajorityOfWrong : ChangeSpec := { name := "fnExactMajorityOf", fn := fun _ => fun
  | [d] => { results := [.lit (.bool false)], args := [d] }
  | _ => none }
def FnExactMajorityOfWrongFalsely : Prop := fnExactMajorityOfRow.holds Try.pinned (OpenSpec.ofChange fnExactMajorityOfWrong)

/- THE SECOND FORM. 'bulk': how many values and letters a reading holds, each counted each time it is reached (what is shared counts as often as it is met; a slice's spare places count too). A statement '..UptoSaid' is the law's where the arguments, and the package variables that the reading takes, are together of bulk at most 1048576: NARROWER than '..Said'. Prove '..Said' where nothing that the law and all that it calls make is longer than what came in: it says more and counts as full. Else prove '..UptoSaid'. A law counts once. -/
mutual
def uptoBulk {H : Type} : DataW H → Nat
  | .lit (.string bytes) => bytes.length + 1
  | .lit _ => 1
  | .nil => 1
  | .ptr d => uptoBulk d + 1
  | .slice elems spare => uptoBulkAll elems + uptoBulkAll spare + 1
  | .agg parts => uptoBulkAll parts + 1
  | .iface _ d => uptoBulk d + 1
  | .map entries => uptoBulkEntries entries + 1
  | .held _ => 1
def uptoBulkAll {H : Type} : List (DataW H) → Nat
  | [] => 0
  | d :: r => uptoBulk d + uptoBulkAll r
def uptoBulkEntries {H : Type} : List (Lit × DataW H) → Nat
  | [] => 0
  | x :: r => uptoBulkEntry x + uptoBulkEntries r
def uptoBulkEntry {H : Type} : Lit × DataW H → Nat
  | (.string bytes, d) => bytes.length + uptoBulk d + 1
  | (_, d) => uptoBulk d + 1
 end
def uptoSmall : (H : Type) → List (DataW H) → Bool := fun _ ds => decide (uptoBulkAll ds ≤ 1048576)
def OpenSpec.upto (s : _root_.Go.ChangeSpec) : _root_.Go.OpenSpec := { _root_.Go.OpenSpec.ofChange s with cond := some uptoSmall }

/-- 'laws.FnExactNewPoll', WHERE WHAT IT READS IS OF BULK AT MOST 1048576: true; the input reads as it did. -/
def fnExactNewPollUptoRow : OpenClaim := { program := "ytapffbbmofhpobc", sum := "1a579d4b6e819e73cfaa8e33f85a86fad0a3ce4a3cdc3e47f1cd90b51073cdd2", func := "loop.example/g00522/laws.FnExactNewPoll", spec := "fnExactNewPoll", apart := false, narrowed := true }
def FnExactNewPollUptoSaid : Prop := fnExactNewPollUptoRow.holds Try.pinned (OpenSpec.upto fnExactNewPollSpec)

/-- 'laws.FnExactGoodPoll', WHERE WHAT IT READS IS OF BULK AT MOST 1048576: true; the input reads as it did. -/
def fnExactGoodPollUptoRow : OpenClaim := { program := "ytapffbbmofhpobc", sum := "1a579d4b6e819e73cfaa8e33f85a86fad0a3ce4a3cdc3e47f1cd90b51073cdd2", func := "loop.example/g00522/laws.FnExactGoodPoll", spec := "fnExactGoodPoll", apart := false, narrowed := true }
def FnExactGoodPollUptoSaid : Prop := fnExactGoodPollUptoRow.holds Try.pinned (OpenSpec.upto fnExactGoodPollSpec)

/-- 'laws.FnExactStepPoll', WHERE WHAT IT READS IS OF BULK AT MOST 1048576: true; the input reads as it did. -/
def fnExactStepPollUptoRow : OpenClaim := { program := "ytapffbbmofhpobc", sum := "1a579d4b6e819e73cfaa8e33f85a86fad0a3ce4a3cdc3e47f1cd90b51073cdd2", func := "loop.example/g00522/laws.FnExactStepPoll", spec := "fnExactStepPoll", apart := false, narrowed := true }
def FnExactStepPollUptoSaid : Prop := fnExactStepPollUptoRow.holds Try.pinned (OpenSpec.upto fnExactStepPollSpec)

/-- 'laws.FnExactPlayPoll', WHERE WHAT IT READS IS OF BULK AT MOST 1048576: true; the input reads as it did. -/
def fnExactPlayPollUptoRow : OpenClaim := { program := "ytapffbbmofhpobc", sum := "1a579d4b6e819e73cfaa8e33f85a86fad0a3ce4a3cdc3e47f1cd90b51073cdd2", func := "loop.example/g00522/laws.FnExactPlayPoll", spec := "fnExactPlayPoll", apart := false, narrowed := true }
def FnExactPlayPollUptoSaid : Prop := fnExactPlayPollUptoRow.holds Try.pinned (OpenSpec.upto fnExactPlayPollSpec)

/-- 'laws.FnExactLeaderOf', WHERE WHAT IT READS IS OF BULK AT MOST 1048576: true; the input reads as it did. -/
def fnExactLeaderOfUptoRow : OpenClaim := { program := "ytapffbbmofhpobc", sum := "1a579d4b6e819e73cfaa8e33f85a86fad0a3ce4a3cdc3e47f1cd90b51073cdd2", func := "loop.example/g00522/laws.FnExactLeaderOf", spec := "fnExactLeaderOf", apart := false, narrowed := true }
def FnExactLeaderOfUptoSaid : Prop := fnExactLeaderOfUptoRow.holds Try.pinned (OpenSpec.upto fnExactLeaderOfSpec)

/-- 'laws.FnExactMajorityOf', WHERE WHAT IT READS IS OF BULK AT MOST 1048576: true; the input reads as it did. -/
def fnExactMajorityOfUptoRow : OpenClaim := { program := "ytapffbbmofhpobc", sum := "1a579d4b6e819e73cfaa8e33f85a86fad0a3ce4a3cdc3e47f1cd90b51073cdd2", func := "loop.example/g00522/laws.FnExactMajorityOf", spec := "fnExactMajorityOf", apart := false, narrowed := true }
def FnExactMajorityOfUptoSaid : Prop := fnExactMajorityOfUptoRow.holds Try.pinned (OpenSpec.upto fnExactMajorityOfSpec)

end Rows
end Go.Proofs.Ytapffbbmofhpobc
