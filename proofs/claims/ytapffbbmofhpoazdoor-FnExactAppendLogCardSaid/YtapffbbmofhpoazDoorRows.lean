/-
  NARROWER THAN 'FOR EVERY INPUT', by the rows' own cells (each row's printed sentence says how): FnExactGoodLog: laid · FnExactAppendLog: laid · FnExactReadAt: laid · FnExactEndOf: laid · FnExactAllOf: laid.
  DERIVED. THE GIVEN ROWS OF THIS SEAT. 5 by the template 'for every input the law returns true; each argument reads behind the call as it read before'; 0 by the template 'total and deterministic' (their statements: YtapffbbmofhpoazDoorTotals.lean).
  GIVEN WITH THE SEED: the statements are not yours to turn. If you find one false, say at which input.
  Laid BY PROGRAM, IN A SANDBOX (cutbox-rows.mjs): the forced cells as the released guide's own fill.sh prints them over the translation 29e39696af7efef3… (all of the seat's roots in one cut). By AI agents, Wed Nov 11 2026. No macro, syntax, notation, axiom, sorry.
-/
import Derived.Test.YtapffbbmofhpoazDoorChecked
import GoSem.Claim
import GoSem.ClaimJoined
import GoSem.ClaimMapViews
import Derived.JoinedTies
import Derived.KernelRfl
namespace Go.Proofs.YtapffbbmofhpoazDoor
/- THE CELL 'sum', in the pinned program and in every row, IS THE sha256 OF THE DUMP (.gsa) THAT YtapffbbmofhpoazDoorProg.lean LOADS. Nothing in Lean hashes anything: it is a label: what it is worth is what the hold of that sum in a sandbox is worth. -/
noncomputable def Tryd.pinned : Pinned := { name := "ytapffbbmofhpoazdoor", sum := "29e39696af7efef3eacf2b57a69e8e7aec09f91cdd65e63c8d632f5932718025", checked := Tryd.checked }
namespace Rows
def none {H : Type} : Left H := { results := [], args := [] }

/- WHAT THE LISTED PACKAGE-LEVEL VARIABLES READ AS WHEN THE CALL BEGINS. Each datum BY PROGRAM (the guide's laid-datum.mjs) off the statement by which the dump's own 'gosem.cut.vars' lays the variable. In a bare row this is a premise. The card (YtapffbbmofhpoazDoorCards.lean) ties it to the program's text. -/
def laid_loop_example_g00522_impl_digitWorth {H : Type} : DataW H := .agg [.lit (.int .i64 1), .lit (.int .i64 128), .lit (.int .i64 16384), .lit (.int .i64 2097152), .lit (.int .i64 268435456), .lit (.int .i64 34359738368)]

/-- 'laws.FnExactGoodLog': WHATEVER THE INPUT: true; the input reads as it did. -/
def fnExactGoodLogSpec : ChangeSpec := { name := "fnExactGoodLog", vars := ["loop.example/g00522/impl.digitWorth"], fn := fun _ => fun
  | [d, g1] => { results := [.lit (.bool true)], args := [d], vars := [g1] }
  | _ => none }
def fnExactGoodLogRow : OpenClaim := { program := "ytapffbbmofhpoazdoor", sum := "29e39696af7efef3eacf2b57a69e8e7aec09f91cdd65e63c8d632f5932718025", func := "loop.example/g00522/laws.FnExactGoodLog", spec := "fnExactGoodLog", named := ["loop.example/g00522/impl.digitWorth"], apart := false, laid := [("loop.example/g00522/impl.digitWorth", laid_loop_example_g00522_impl_digitWorth)] }
def FnExactGoodLogSaid : Prop := fnExactGoodLogRow.holds Tryd.pinned (OpenSpec.ofChange fnExactGoodLogSpec)

/-- ITS FALSE NEIGHBOUR: 'it returns false'. Refute it at one input. -/
def fnExactGoodLogWrong : ChangeSpec := { name := "fnExactGoodLog", vars := ["loop.example/g00522/impl.digitWorth"], fn := fun _ => fun
  | [d, g1] => { results := [.lit (.bool false)], args := [d], vars := [g1] }
  | _ => none }
def FnExactGoodLogWrongFalsely : Prop := fnExactGoodLogRow.holds Tryd.pinned (OpenSpec.ofChange fnExactGoodLogWrong)

/-- 'laws.FnExactAppendLog': WHATEVER THE INPUT: true; the input reads as it did. -/
def fnExactAppendLogSpec : ChangeSpec := { name := "fnExactAppendLog", vars := ["loop.example/g00522/impl.digitWorth"], fn := fun _ => fun
  | [d1, d2, g1] => { results := [.lit (.bool true)], args := [d1, d2], vars := [g1] }
  | _ => none }
def fnExactAppendLogRow : OpenClaim := { program := "ytapffbbmofhpoazdoor", sum := "29e39696af7efef3eacf2b57a69e8e7aec09f91cdd65e63c8d632f5932718025", func := "loop.example/g00522/laws.FnExactAppendLog", spec := "fnExactAppendLog", named := ["loop.example/g00522/impl.digitWorth"], apart := false, laid := [("loop.example/g00522/impl.digitWorth", laid_loop_example_g00522_impl_digitWorth)] }
def FnExactAppendLogSaid : Prop := fnExactAppendLogRow.holds Tryd.pinned (OpenSpec.ofChange fnExactAppendLogSpec)

/-- ITS FALSE NEIGHBOUR: 'it returns false'. Refute it at one input. -/
def fnExactAppendLogWrong : ChangeSpec := { name := "fnExactAppendLog", vars := ["loop.example/g00522/impl.digitWorth"], fn := fun _ => fun
  | [d1, d2, g1] => { results := [.lit (.bool false)], args := [d1, d2], vars := [g1] }
  | _ => none }
def FnExactAppendLogWrongFalsely : Prop := fnExactAppendLogRow.holds Tryd.pinned (OpenSpec.ofChange fnExactAppendLogWrong)

/-- 'laws.FnExactReadAt': WHATEVER THE INPUT: true; the input reads as it did. -/
def fnExactReadAtSpec : ChangeSpec := { name := "fnExactReadAt", vars := ["loop.example/g00522/impl.digitWorth"], fn := fun _ => fun
  | [d1, d2, g1] => { results := [.lit (.bool true)], args := [d1, d2], vars := [g1] }
  | _ => none }
def fnExactReadAtRow : OpenClaim := { program := "ytapffbbmofhpoazdoor", sum := "29e39696af7efef3eacf2b57a69e8e7aec09f91cdd65e63c8d632f5932718025", func := "loop.example/g00522/laws.FnExactReadAt", spec := "fnExactReadAt", named := ["loop.example/g00522/impl.digitWorth"], apart := false, laid := [("loop.example/g00522/impl.digitWorth", laid_loop_example_g00522_impl_digitWorth)] }
def FnExactReadAtSaid : Prop := fnExactReadAtRow.holds Tryd.pinned (OpenSpec.ofChange fnExactReadAtSpec)

/-- ITS FALSE NEIGHBOUR: 'it returns false'. Refute it at one input. -/
def fnExactReadAtWrong : ChangeSpec := { name := "fnExactReadAt", vars := ["loop.example/g00522/impl.digitWorth"], fn := fun _ => fun
  | [d1, d2, g1] => { results := [.lit (.bool false)], args := [d1, d2], vars := [g1] }
  | _ => none }
def FnExactReadAtWrongFalsely : Prop := fnExactReadAtRow.holds Tryd.pinned (OpenSpec.ofChange fnExactReadAtWrong)

/-- 'laws.FnExactEndOf': WHATEVER THE INPUT: true; the input reads as it did. -/
def fnExactEndOfSpec : ChangeSpec := { name := "fnExactEndOf", vars := ["loop.example/g00522/impl.digitWorth"], fn := fun _ => fun
  | [d, g1] => { results := [.lit (.bool true)], args := [d], vars := [g1] }
  | _ => none }
def fnExactEndOfRow : OpenClaim := { program := "ytapffbbmofhpoazdoor", sum := "29e39696af7efef3eacf2b57a69e8e7aec09f91cdd65e63c8d632f5932718025", func := "loop.example/g00522/laws.FnExactEndOf", spec := "fnExactEndOf", named := ["loop.example/g00522/impl.digitWorth"], apart := false, laid := [("loop.example/g00522/impl.digitWorth", laid_loop_example_g00522_impl_digitWorth)] }
def FnExactEndOfSaid : Prop := fnExactEndOfRow.holds Tryd.pinned (OpenSpec.ofChange fnExactEndOfSpec)

/-- ITS FALSE NEIGHBOUR: 'it returns false'. Refute it at one input. -/
def fnExactEndOfWrong : ChangeSpec := { name := "fnExactEndOf", vars := ["loop.example/g00522/impl.digitWorth"], fn := fun _ => fun
  | [d, g1] => { results := [.lit (.bool false)], args := [d], vars := [g1] }
  | _ => none }
def FnExactEndOfWrongFalsely : Prop := fnExactEndOfRow.holds Tryd.pinned (OpenSpec.ofChange fnExactEndOfWrong)

/-- 'laws.FnExactAllOf': WHATEVER THE INPUT: true; the input reads as it did. -/
def fnExactAllOfSpec : ChangeSpec := { name := "fnExactAllOf", vars := ["loop.example/g00522/impl.digitWorth"], fn := fun _ => fun
  | [d, g1] => { results := [.lit (.bool true)], args := [d], vars := [g1] }
  | _ => none }
def fnExactAllOfRow : OpenClaim := { program := "ytapffbbmofhpoazdoor", sum := "29e39696af7efef3eacf2b57a69e8e7aec09f91cdd65e63c8d632f5932718025", func := "loop.example/g00522/laws.FnExactAllOf", spec := "fnExactAllOf", named := ["loop.example/g00522/impl.digitWorth"], apart := false, laid := [("loop.example/g00522/impl.digitWorth", laid_loop_example_g00522_impl_digitWorth)] }
def FnExactAllOfSaid : Prop := fnExactAllOfRow.holds Tryd.pinned (OpenSpec.ofChange fnExactAllOfSpec)

/-- ITS FALSE NEIGHBOUR: 'it returns false'. Refute it at one input. -/
def fnExactAllOfWrong : ChangeSpec := { name := "fnExactAllOf", vars := ["loop.example/g00522/impl.digitWorth"], fn := fun _ => fun
  | [d, g1] => { results := [.lit (.bool false)], args := [d], vars := [g1] }
  | _ => none }
def FnExactAllOfWrongFalsely : Prop := fnExactAllOfRow.holds Tryd.pinned (OpenSpec.ofChange fnExactAllOfWrong)

/- THE SECOND FORM. 'bulk': how many values and letters a reading holds, each counted each time it is reached (what is shared counts as often as it is met; a slice's spare places count too). A statement '..UptoSaid' is the law's where the arguments, and the package variables that the reading takes, are together of bulk at most 1048576: NARROWER than '..Said'. Prove '..Said' where nothing that the law and all that it calls make is longer than what came in: it says more and counts as full. Else prove '..UptoSaid'. A law counts once. -/
mutual
def uptoBulk {H : Type} : DataW H → Nat
  | .lit (.string bytes) => bytes.length + 1
  | .lit _ => 1
  | .nil => 1
  | .ptr d => uptoBulk d + 1
  | .slice elems spare => uptoBulkAll elems + uptoBulkAll spare + 1
  | .agg parts => uptoBulkAll parts + 1
  | .iface _ d => uptoBulk d + 1
  | .map entries => uptoBulkEntries entries + 1
  | .held _ => 1
def uptoBulkAll {H : Type} : List (DataW H) → Nat
  | [] => 0
  | d :: r => uptoBulk d + uptoBulkAll r
def uptoBulkEntries {H : Type} : List (Lit × DataW H) → Nat
  | [] => 0
  | x :: r => uptoBulkEntry x + uptoBulkEntries r
def uptoBulkEntry {H : Type} : Lit × DataW H → Nat
  | (.string bytes, d) => bytes.length + uptoBulk d + 1
  | (_, d) => uptoBulk d + 1
 end
def uptoSmall : (H : Type) → List (DataW H) → Bool := fun _ ds => decide (uptoBulkAll ds ≤ 1048576)
def OpenSpec.upto (s : _root_.Go.ChangeSpec) : _root_.Go.OpenSpec := { _root_.Go.OpenSpec.ofChange s with cond := some uptoSmall }

/-- 'laws.FnExactGoodLog', WHERE WHAT IT READS IS OF BULK AT MOST 1048576: true; the input reads as it did. -/
def fnExactGoodLogUptoRow : OpenClaim := { program := "ytapffbbmofhpoazdoor", sum := "29e39696af7efef3eacf2b57a69e8e7aec09f91cdd65e63c8d632f5932718025", func := "loop.example/g00522/laws.FnExactGoodLog", spec := "fnExactGoodLog", named := ["loop.example/g00522/impl.digitWorth"], apart := false, laid := [("loop.example/g00522/impl.digitWorth", laid_loop_example_g00522_impl_digitWorth)], narrowed := true }
def FnExactGoodLogUptoSaid : Prop := fnExactGoodLogUptoRow.holds Tryd.pinned (OpenSpec.upto fnExactGoodLogSpec)

/-- 'laws.FnExactAppendLog', WHERE WHAT IT READS IS OF BULK AT MOST 1048576: true; the input reads as it did. -/
def fnExactAppendLogUptoRow : OpenClaim := { program := "ytapffbbmofhpoazdoor", sum := "29e39696af7efef3eacf2b57a69e8e7aec09f91cdd65e63c8d632f5932718025", func := "loop.example/g00522/laws.FnExactAppendLog", spec := "fnExactAppendLog", named := ["loop.example/g00522/impl.digitWorth"], apart := false, laid := [("loop.example/g00522/impl.digitWorth", laid_loop_example_g00522_impl_digitWorth)], narrowed := true }
def FnExactAppendLogUptoSaid : Prop := fnExactAppendLogUptoRow.holds Tryd.pinned (OpenSpec.upto fnExactAppendLogSpec)

/-- 'laws.FnExactReadAt', WHERE WHAT IT READS IS OF BULK AT MOST 1048576: true; the input reads as it did. -/
def fnExactReadAtUptoRow : OpenClaim := { program := "ytapffbbmofhpoazdoor", sum := "29e39696af7efef3eacf2b57a69e8e7aec09f91cdd65e63c8d632f5932718025", func := "loop.example/g00522/laws.FnExactReadAt", spec := "fnExactReadAt", named := ["loop.example/g00522/impl.digitWorth"], apart := false, laid := [("loop.example/g00522/impl.digitWorth", laid_loop_example_g00522_impl_digitWorth)], narrowed := true }
def FnExactReadAtUptoSaid : Prop := fnExactReadAtUptoRow.holds Tryd.pinned (OpenSpec.upto fnExactReadAtSpec)

/-- 'laws.FnExactEndOf', WHERE WHAT IT READS IS OF BULK AT MOST 1048576: true; the input reads as it did. -/
def fnExactEndOfUptoRow : OpenClaim := { program := "ytapffbbmofhpoazdoor", sum := "29e39696af7efef3eacf2b57a69e8e7aec09f91cdd65e63c8d632f5932718025", func := "loop.example/g00522/laws.FnExactEndOf", spec := "fnExactEndOf", named := ["loop.example/g00522/impl.digitWorth"], apart := false, laid := [("loop.example/g00522/impl.digitWorth", laid_loop_example_g00522_impl_digitWorth)], narrowed := true }
def FnExactEndOfUptoSaid : Prop := fnExactEndOfUptoRow.holds Tryd.pinned (OpenSpec.upto fnExactEndOfSpec)

/-- 'laws.FnExactAllOf', WHERE WHAT IT READS IS OF BULK AT MOST 1048576: true; the input reads as it did. -/
def fnExactAllOfUptoRow : OpenClaim := { program := "ytapffbbmofhpoazdoor", sum := "29e39696af7efef3eacf2b57a69e8e7aec09f91cdd65e63c8d632f5932718025", func := "loop.example/g00522/laws.FnExactAllOf", spec := "fnExactAllOf", named := ["loop.example/g00522/impl.digitWorth"], apart := false, laid := [("loop.example/g00522/impl.digitWorth", laid_loop_example_g00522_impl_digitWorth)], narrowed := true }
def FnExactAllOfUptoSaid : Prop := fnExactAllOfUptoRow.holds Tryd.pinned (OpenSpec.upto fnExactAllOfSpec)

end Rows
end Go.Proofs.YtapffbbmofhpoazDoor
