/-
  NARROWER THAN 'FOR EVERY INPUT', by the rows' own cells (each row's printed sentence says how): FnExactCutFrom: laid · FnExactDropBefore: laid · FnExactRecoverPiece: laid · FnExactTearEnd: laid.
  DERIVED. THE GIVEN ROWS OF THIS SEAT. 4 by the template 'for every input the law returns true; each argument reads behind the call as it read before'; 0 by the template 'total and deterministic' (their statements: YtapffbbmofhpobaDoorTotals.lean).
  GIVEN WITH THE SEED: the statements are not yours to turn. If you find one false, say at which input.
  Laid BY PROGRAM, IN A SANDBOX (cutbox-rows.mjs): the forced cells as the released guide's own fill.sh prints them over the translation 354a5d9d49f9f14c… (all of the seat's roots in one cut). By AI agents, Wed Nov 11 2026. No macro, syntax, notation, axiom, sorry.
-/
import Derived.Test.YtapffbbmofhpobaDoorChecked
import GoSem.Claim
import GoSem.ClaimJoined
import GoSem.ClaimMapViews
import Derived.JoinedTies
import Derived.KernelRfl
namespace Go.Proofs.YtapffbbmofhpobaDoor
/- THE CELL 'sum', in the pinned program and in every row, IS THE sha256 OF THE DUMP (.gsa) THAT YtapffbbmofhpobaDoorProg.lean LOADS. Nothing in Lean hashes anything: it is a label: what it is worth is what the hold of that sum in a sandbox is worth. -/
noncomputable def Tryd.pinned : Pinned := { name := "ytapffbbmofhpobadoor", sum := "354a5d9d49f9f14ca8aa7aee035a70cab05793e820167e9a74570ead01057353", checked := Tryd.checked }
namespace Rows
def none {H : Type} : Left H := { results := [], args := [] }

/- WHAT THE LISTED PACKAGE-LEVEL VARIABLES READ AS WHEN THE CALL BEGINS. Each datum BY PROGRAM (the guide's laid-datum.mjs) off the statement by which the dump's own 'gosem.cut.vars' lays the variable. In a bare row this is a premise. The card (YtapffbbmofhpobaDoorCards.lean) ties it to the program's text. -/
def laid_loop_example_g00522_impl_digitWorth {H : Type} : DataW H := .agg [.lit (.int .i64 1), .lit (.int .i64 128), .lit (.int .i64 16384), .lit (.int .i64 2097152), .lit (.int .i64 268435456), .lit (.int .i64 34359738368)]

/-- 'laws.FnExactCutFrom': WHATEVER THE INPUT: true; the input reads as it did. -/
def fnExactCutFromSpec : ChangeSpec := { name := "fnExactCutFrom", vars := ["loop.example/g00522/impl.digitWorth"], fn := fun _ => fun
  | [d1, d2, g1] => { results := [.lit (.bool true)], args := [d1, d2], vars := [g1] }
  | _ => none }
def fnExactCutFromRow : OpenClaim := { program := "ytapffbbmofhpobadoor", sum := "354a5d9d49f9f14ca8aa7aee035a70cab05793e820167e9a74570ead01057353", func := "loop.example/g00522/laws.FnExactCutFrom", spec := "fnExactCutFrom", named := ["loop.example/g00522/impl.digitWorth"], apart := false, laid := [("loop.example/g00522/impl.digitWorth", laid_loop_example_g00522_impl_digitWorth)] }
def FnExactCutFromSaid : Prop := fnExactCutFromRow.holds Tryd.pinned (OpenSpec.ofChange fnExactCutFromSpec)

/-- ITS FALSE NEIGHBOUR: 'it returns false'. Refute it at one input. -/
def fnExactCutFromWrong : ChangeSpec := { name := "fnExactCutFrom", vars := ["loop.example/g00522/impl.digitWorth"], fn := fun _ => fun
  | [d1, d2, g1] => { results := [.lit (.bool false)], args := [d1, d2], vars := [g1] }
  | _ => none }
def FnExactCutFromWrongFalsely : Prop := fnExactCutFromRow.holds Tryd.pinned (OpenSpec.ofChange fnExactCutFromWrong)

/-- 'laws.FnExactDropBefore': WHATEVER THE INPUT: true; the input reads as it did. -/
def fnExactDropBeforeSpec : ChangeSpec := { name := "fnExactDropBefore", vars := ["loop.example/g00522/impl.digitWorth"], fn := fun _ => fun
  | [d1, d2, g1] => { results := [.lit (.bool true)], args := [d1, d2], vars := [g1] }
  | _ => none }
def fnExactDropBeforeRow : OpenClaim := { program := "ytapffbbmofhpobadoor", sum := "354a5d9d49f9f14ca8aa7aee035a70cab05793e820167e9a74570ead01057353", func := "loop.example/g00522/laws.FnExactDropBefore", spec := "fnExactDropBefore", named := ["loop.example/g00522/impl.digitWorth"], apart := false, laid := [("loop.example/g00522/impl.digitWorth", laid_loop_example_g00522_impl_digitWorth)] }
def FnExactDropBeforeSaid : Prop := fnExactDropBeforeRow.holds Tryd.pinned (OpenSpec.ofChange fnExactDropBeforeSpec)

/-- ITS FALSE NEIGHBOUR: 'it returns false'. Refute it at one input. -/
def fnExactDropBeforeWrong : ChangeSpec := { name := "fnExactDropBefore", vars := ["loop.example/g00522/impl.digitWorth"], fn := fun _ => fun
  | [d1, d2, g1] => { results := [.lit (.bool false)], args := [d1, d2], vars := [g1] }
  | _ => none }
def FnExactDropBeforeWrongFalsely : Prop := fnExactDropBeforeRow.holds Tryd.pinned (OpenSpec.ofChange fnExactDropBeforeWrong)

/-- 'laws.FnExactRecoverPiece': WHATEVER THE INPUT: true; the input reads as it did. -/
def fnExactRecoverPieceSpec : ChangeSpec := { name := "fnExactRecoverPiece", vars := ["loop.example/g00522/impl.digitWorth"], fn := fun _ => fun
  | [d1, d2, g1] => { results := [.lit (.bool true)], args := [d1, d2], vars := [g1] }
  | _ => none }
def fnExactRecoverPieceRow : OpenClaim := { program := "ytapffbbmofhpobadoor", sum := "354a5d9d49f9f14ca8aa7aee035a70cab05793e820167e9a74570ead01057353", func := "loop.example/g00522/laws.FnExactRecoverPiece", spec := "fnExactRecoverPiece", named := ["loop.example/g00522/impl.digitWorth"], apart := false, laid := [("loop.example/g00522/impl.digitWorth", laid_loop_example_g00522_impl_digitWorth)] }
def FnExactRecoverPieceSaid : Prop := fnExactRecoverPieceRow.holds Tryd.pinned (OpenSpec.ofChange fnExactRecoverPieceSpec)

/-- ITS FALSE NEIGHBOUR: 'it returns false'. Refute it at one input. -/
def fnExactRecoverPieceWrong : ChangeSpec := { name := "fnExactRecoverPiece", vars := ["loop.example/g00522/impl.digitWorth"], fn := fun _ => fun
  | [d1, d2, g1] => { results := [.lit (.bool false)], args := [d1, d2], vars := [g1] }
  | _ => none }
def FnExactRecoverPieceWrongFalsely : Prop := fnExactRecoverPieceRow.holds Tryd.pinned (OpenSpec.ofChange fnExactRecoverPieceWrong)

/-- 'laws.FnExactTearEnd': WHATEVER THE INPUT: true; the input reads as it did. -/
def fnExactTearEndSpec : ChangeSpec := { name := "fnExactTearEnd", vars := ["loop.example/g00522/impl.digitWorth"], fn := fun _ => fun
  | [d1, d2, g1] => { results := [.lit (.bool true)], args := [d1, d2], vars := [g1] }
  | _ => none }
def fnExactTearEndRow : OpenClaim := { program := "ytapffbbmofhpobadoor", sum := "354a5d9d49f9f14ca8aa7aee035a70cab05793e820167e9a74570ead01057353", func := "loop.example/g00522/laws.FnExactTearEnd", spec := "fnExactTearEnd", named := ["loop.example/g00522/impl.digitWorth"], apart := false, laid := [("loop.example/g00522/impl.digitWorth", laid_loop_example_g00522_impl_digitWorth)] }
def FnExactTearEndSaid : Prop := fnExactTearEndRow.holds Tryd.pinned (OpenSpec.ofChange fnExactTearEndSpec)

/-- ITS FALSE NEIGHBOUR: 'it returns false'. Refute it at one input. -/
def fnExactTearEndWrong : ChangeSpec := { name := "fnExactTearEnd", vars := ["loop.example/g00522/impl.digitWorth"], fn := fun _ => fun
  | [d1, d2, g1] => { results := [.lit (.bool false)], args := [d1, d2], vars := [g1] }
  | _ => none }
def FnExactTearEndWrongFalsely : Prop := fnExactTearEndRow.holds Tryd.pinned (OpenSpec.ofChange fnExactTearEndWrong)

/- THE SECOND FORM. 'bulk': how many values and letters a reading holds, each counted each time it is reached (what is shared counts as often as it is met; a slice's spare places count too). A statement '..UptoSaid' is the law's where the arguments, and the package variables that the reading takes, are together of bulk at most 1048576: NARROWER than '..Said'. Prove '..Said' where nothing that the law and all that it calls make is longer than what came in: it says more and counts as full. Else prove '..UptoSaid'. A law counts once. -/
mutual
def uptoBulk {H : Type} : DataW H → Nat
  | .lit (.string bytes) => bytes.length + 1
  | .lit _ => 1
  | .nil => 1
  | .ptr d => uptoBulk d + 1
  | .slice elems spare => uptoBulkAll elems + uptoBulkAll spare + 1
  | .agg parts => uptoBulkAll parts + 1
  | .iface _ d => uptoBulk d + 1
  | .map entries => uptoBulkEntries entries + 1
  | .held _ => 1
def uptoBulkAll {H : Type} : List (DataW H) → Nat
  | [] => 0
  | d :: r => uptoBulk d + uptoBulkAll r
def uptoBulkEntries {H : Type} : List (Lit × DataW H) → Nat
  | [] => 0
  | x :: r => uptoBulkEntry x + uptoBulkEntries r
def uptoBulkEntry {H : Type} : Lit × DataW H → Nat
  | (.string bytes, d) => bytes.length + uptoBulk d + 1
  | (_, d) => uptoBulk d + 1
 end
def uptoSmall : (H : Type) → List (DataW H) → Bool := fun _ ds => decide (uptoBulkAll ds ≤ 1048576)
def OpenSpec.upto (s : _root_.Go.ChangeSpec) : _root_.Go.OpenSpec := { _root_.Go.OpenSpec.ofChange s with cond := some uptoSmall }

/-- 'laws.FnExactCutFrom', WHERE WHAT IT READS IS OF BULK AT MOST 1048576: true; the input reads as it did. -/
def fnExactCutFromUptoRow : OpenClaim := { program := "ytapffbbmofhpobadoor", sum := "354a5d9d49f9f14ca8aa7aee035a70cab05793e820167e9a74570ead01057353", func := "loop.example/g00522/laws.FnExactCutFrom", spec := "fnExactCutFrom", named := ["loop.example/g00522/impl.digitWorth"], apart := false, laid := [("loop.example/g00522/impl.digitWorth", laid_loop_example_g00522_impl_digitWorth)], narrowed := true }
def FnExactCutFromUptoSaid : Prop := fnExactCutFromUptoRow.holds Tryd.pinned (OpenSpec.upto fnExactCutFromSpec)

/-- 'laws.FnExactDropBefore', WHERE WHAT IT READS IS OF BULK AT MOST 1048576: true; the input reads as it did. -/
def fnExactDropBeforeUptoRow : OpenClaim := { program := "ytapffbbmofhpobadoor", sum := "354a5d9d49f9f14ca8aa7aee035a70cab05793e820167e9a74570ead01057353", func := "loop.example/g00522/laws.FnExactDropBefore", spec := "fnExactDropBefore", named := ["loop.example/g00522/impl.digitWorth"], apart := false, laid := [("loop.example/g00522/impl.digitWorth", laid_loop_example_g00522_impl_digitWorth)], narrowed := true }
def FnExactDropBeforeUptoSaid : Prop := fnExactDropBeforeUptoRow.holds Tryd.pinned (OpenSpec.upto fnExactDropBeforeSpec)

/-- 'laws.FnExactRecoverPiece', WHERE WHAT IT READS IS OF BULK AT MOST 1048576: true; the input reads as it did. -/
def fnExactRecoverPieceUptoRow : OpenClaim := { program := "ytapffbbmofhpobadoor", sum := "354a5d9d49f9f14ca8aa7aee035a70cab05793e820167e9a74570ead01057353", func := "loop.example/g00522/laws.FnExactRecoverPiece", spec := "fnExactRecoverPiece", named := ["loop.example/g00522/impl.digitWorth"], apart := false, laid := [("loop.example/g00522/impl.digitWorth", laid_loop_example_g00522_impl_digitWorth)], narrowed := true }
def FnExactRecoverPieceUptoSaid : Prop := fnExactRecoverPieceUptoRow.holds Tryd.pinned (OpenSpec.upto fnExactRecoverPieceSpec)

/-- 'laws.FnExactTearEnd', WHERE WHAT IT READS IS OF BULK AT MOST 1048576: true; the input reads as it did. -/
def fnExactTearEndUptoRow : OpenClaim := { program := "ytapffbbmofhpobadoor", sum := "354a5d9d49f9f14ca8aa7aee035a70cab05793e820167e9a74570ead01057353", func := "loop.example/g00522/laws.FnExactTearEnd", spec := "fnExactTearEnd", named := ["loop.example/g00522/impl.digitWorth"], apart := false, laid := [("loop.example/g00522/impl.digitWorth", laid_loop_example_g00522_impl_digitWorth)], narrowed := true }
def FnExactTearEndUptoSaid : Prop := fnExactTearEndUptoRow.holds Tryd.pinned (OpenSpec.upto fnExactTearEndSpec)

end Rows
end Go.Proofs.YtapffbbmofhpobaDoor
