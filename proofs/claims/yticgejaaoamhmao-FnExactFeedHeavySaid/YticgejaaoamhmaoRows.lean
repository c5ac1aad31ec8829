/-
  No cell of these rows narrows 'for every input' (looked for: loops, veiled, ifaces, maps, wideKeys, modest, calm, conditions, laid).
  DERIVED. THE GIVEN ROWS OF THIS SEAT. 6 by the template 'for every input the law returns true; each argument reads behind the call as it read before'; 0 by the template 'total and deterministic' (their statements: YticgejaaoamhmaoTotals.lean).
  GIVEN WITH THE SEED: the statements are not yours to turn. If you find one false, say at which input.
  Laid BY PROGRAM, IN A SANDBOX (cutbox-rows.mjs): the forced cells as the released guide's own fill.sh prints them over the translation 8367c8aef5a2c6ed… (all of the seat's roots in one cut). By AI agents, Wed Nov 11 2026. No macro, syntax, notation, axiom, sorry.
-/
import Derived.Test.YticgejaaoamhmaoChecked
import GoSem.Claim
import GoSem.ClaimJoined
import GoSem.ClaimMapViews
import Derived.JoinedTies
import Derived.KernelRfl
namespace Go.Proofs.Yticgejaaoamhmao
/- THE CELL 'sum', in the pinned program and in every row, IS THE sha256 OF THE DUMP (.gsa) THAT YticgejaaoamhmaoProg.lean LOADS. Nothing in Lean hashes anything: it is a label: what it is worth is what the hold of that sum in a sandbox is worth. -/
noncomputable def Try.pinned : Pinned := { name := "yticgejaaoamhmao", sum := "8367c8aef5a2c6ed5abddbd02c32719a2980bb62af878a9411c403b1278d9fdc", checked := Try.checked }
namespace Rows
def none {H : Type} : Left H := { results := [], args := [] }

/-- 'laws.FnExactAddHeavy': WHATEVER THE INPUT: true; the input reads as it did. -/
def fnExactAddHeavySpec : ChangeSpec := { name := "fnExactAddHeavy", fn := fun _ => fun
  | [d1, d2] => { results := [.lit (.bool true)], args := [d1, d2] }
  | _ => none }
def fnExactAddHeavyRow : OpenClaim := { program := "yticgejaaoamhmao", sum := "8367c8aef5a2c6ed5abddbd02c32719a2980bb62af878a9411c403b1278d9fdc", func := "loop.example/g00522/laws.FnExactAddHeavy", spec := "fnExactAddHeavy", unfollowed := true, recurses := true, apart := false }
def FnExactAddHeavySaid : Prop := fnExactAddHeavyRow.holds Try.pinned (OpenSpec.ofChange fnExactAddHeavySpec)

/-- ITS FALSE NEIGHBOUR: 'it returns false'. Refute it at one input. -/
def fnExactAddHeavyWrong : ChangeSpec := { name := "fnExactAddHeavy", fn := fun _ => fun
  | [d1, d2] => { results := [.lit (.bool false)], args := [d1, d2] }
  | _ => none }
def FnExactAddHeavyWrongFalsely : Prop := fnExactAddHeavyRow.holds Try.pinned (OpenSpec.ofChange fnExactAddHeavyWrong)

/-- 'laws.FnExactLeastOf': WHATEVER THE INPUT: true; the input reads as it did. -/
def fnExactLeastOfSpec : ChangeSpec := { name := "fnExactLeastOf", fn := fun _ => fun
  | [d1, d2] => { results := [.lit (.bool true)], args := [d1, d2] }
  | _ => none }
def fnExactLeastOfRow : OpenClaim := { program := "yticgejaaoamhmao", sum := "8367c8aef5a2c6ed5abddbd02c32719a2980bb62af878a9411c403b1278d9fdc", func := "loop.example/g00522/laws.FnExactLeastOf", spec := "fnExactLeastOf", unfollowed := true, recurses := true, apart := false }
def FnExactLeastOfSaid : Prop := fnExactLeastOfRow.holds Try.pinned (OpenSpec.ofChange fnExactLeastOfSpec)

/-- ITS FALSE NEIGHBOUR: 'it returns false'. Refute it at one input. -/
def fnExactLeastOfWrong : ChangeSpec := { name := "fnExactLeastOf", fn := fun _ => fun
  | [d1, d2] => { results := [.lit (.bool false)], args := [d1, d2] }
  | _ => none }
def FnExactLeastOfWrongFalsely : Prop := fnExactLeastOfRow.holds Try.pinned (OpenSpec.ofChange fnExactLeastOfWrong)

/-- 'laws.FnExactFeedHeavy': WHATEVER THE INPUT: true; the input reads as it did. -/
def fnExactFeedHeavySpec : ChangeSpec := { name := "fnExactFeedHeavy", fn := fun _ => fun
  | [d1, d2] => { results := [.lit (.bool true)], args := [d1, d2] }
  | _ => none }
def fnExactFeedHeavyRow : OpenClaim := { program := "yticgejaaoamhmao", sum := "8367c8aef5a2c6ed5abddbd02c32719a2980bb62af878a9411c403b1278d9fdc", func := "loop.example/g00522/laws.FnExactFeedHeavy", spec := "fnExactFeedHeavy", unfollowed := true, recurses := true, apart := false }
def FnExactFeedHeavySaid : Prop := fnExactFeedHeavyRow.holds Try.pinned (OpenSpec.ofChange fnExactFeedHeavySpec)

/-- ITS FALSE NEIGHBOUR: 'it returns false'. Refute it at one input. -/
def fnExactFeedHeavyWrong : ChangeSpec := { name := "fnExactFeedHeavy", fn := fun _ => fun
  | [d1, d2] => { results := [.lit (.bool false)], args := [d1, d2] }
  | _ => none }
def FnExactFeedHeavyWrongFalsely : Prop := fnExactFeedHeavyRow.holds Try.pinned (OpenSpec.ofChange fnExactFeedHeavyWrong)

/-- 'laws.FnExactCounterOk': WHATEVER THE INPUT: true; the input reads as it did. -/
def fnExactCounterOkSpec : ChangeSpec := { name := "fnExactCounterOk", fn := fun _ => fun
  | [d] => { results := [.lit (.bool true)], args := [d] }
  | _ => none }
def fnExactCounterOkRow : OpenClaim := { program := "yticgejaaoamhmao", sum := "8367c8aef5a2c6ed5abddbd02c32719a2980bb62af878a9411c403b1278d9fdc", func := "loop.example/g00522/laws.FnExactCounterOk", spec := "fnExactCounterOk", unfollowed := true, recurses := true, apart := false }
def FnExactCounterOkSaid : Prop := fnExactCounterOkRow.holds Try.pinned (OpenSpec.ofChange fnExactCounterOkSpec)

/-- ITS FALSE NEIGHBOUR: 'it returns false'. Refute it at one input. -/
def fnExactCounterOkWrong : ChangeSpec := { name := "fnExactCounterOk", fn := fun _ => fun
  | [d] => { results := [.lit (.bool false)], args := [d] }
  | _ => none }
def FnExactCounterOkWrongFalsely : Prop := fnExactCounterOkRow.holds Try.pinned (OpenSpec.ofChange fnExactCounterOkWrong)

/-- 'laws.FnExactRiseOf': WHATEVER THE INPUT: true; the input reads as it did. -/
def fnExactRiseOfSpec : ChangeSpec := { name := "fnExactRiseOf", fn := fun _ => fun
  | [d] => { results := [.lit (.bool true)], args := [d] }
  | _ => none }
def fnExactRiseOfRow : OpenClaim := { program := "yticgejaaoamhmao", sum := "8367c8aef5a2c6ed5abddbd02c32719a2980bb62af878a9411c403b1278d9fdc", func := "loop.example/g00522/laws.FnExactRiseOf", spec := "fnExactRiseOf", unfollowed := true, recurses := true, apart := false }
def FnExactRiseOfSaid : Prop := fnExactRiseOfRow.holds Try.pinned (OpenSpec.ofChange fnExactRiseOfSpec)

/-- ITS FALSE NEIGHBOUR: 'it returns false'. Refute it at one input. -/
def fnExactRiseOfWrong : ChangeSpec := { name := "fnExactRiseOf", fn := fun _ => fun
  | [d] => { results := [.lit (.bool false)], args := [d] }
  | _ => none }
def FnExactRiseOfWrongFalsely : Prop := fnExactRiseOfRow.holds Try.pinned (OpenSpec.ofChange fnExactRiseOfWrong)

/-- 'laws.FnExactResetsIn': WHATEVER THE INPUT: true; the input reads as it did. -/
def fnExactResetsInSpec : ChangeSpec := { name := "fnExactResetsIn", fn := fun _ => fun
  | [d] => { results := [.lit (.bool true)], args := [d] }
  | _ => none }
def fnExactResetsInRow : OpenClaim := { program := "yticgejaaoamhmao", sum := "8367c8aef5a2c6ed5abddbd02c32719a2980bb62af878a9411c403b1278d9fdc", func := "loop.example/g00522/laws.FnExactResetsIn", spec := "fnExactResetsIn", unfollowed := true, recurses := true, apart := false }
def FnExactResetsInSaid : Prop := fnExactResetsInRow.holds Try.pinned (OpenSpec.ofChange fnExactResetsInSpec)

/-- ITS FALSE NEIGHBOUR: 'it returns false'. Refute it at one input. -/
def fnExactResetsInWrong : ChangeSpec := { name := "fnExactResetsIn", fn := fun _ => fun
  | [d] => { results := [.lit (.bool false)], args := [d] }
  | _ => none }
def FnExactResetsInWrongFalsely : Prop := fnExactResetsInRow.holds Try.pinned (OpenSpec.ofChange fnExactResetsInWrong)

/- THE SECOND FORM. 'bulk': how many values and letters a reading holds, each counted each time it is reached (what is shared counts as often as it is met; a slice's spare places count too). A statement '..UptoSaid' is the law's where the arguments, and the package variables that the reading takes, are together of bulk at most 1048576: NARROWER than '..Said'. Prove '..Said' where nothing that the law and all that it calls make is longer than what came in: it says more and counts as full. Else prove '..UptoSaid'. A law counts once. -/
mutual
def uptoBulk {H : Type} : DataW H → Nat
  | .lit (.string bytes) => bytes.length + 1
  | .lit _ => 1
  | .nil => 1
  | .ptr d => uptoBulk d + 1
  | .slice elems spare => uptoBulkAll elems + uptoBulkAll spare + 1
  | .agg parts => uptoBulkAll parts + 1
  | .iface _ d => uptoBulk d + 1
  | .map entries => uptoBulkEntries entries + 1
  | .held _ => 1
def uptoBulkAll {H : Type} : List (DataW H) → Nat
  | [] => 0
  | d :: r => uptoBulk d + uptoBulkAll r
def uptoBulkEntries {H : Type} : List (Lit × DataW H) → Nat
  | [] => 0
  | x :: r => uptoBulkEntry x + uptoBulkEntries r
def uptoBulkEntry {H : Type} : Lit × DataW H → Nat
  | (.string bytes, d) => bytes.length + uptoBulk d + 1
  | (_, d) => uptoBulk d + 1
 end
def uptoSmall : (H : Type) → List (DataW H) → Bool := fun _ ds => decide (uptoBulkAll ds ≤ 1048576)
def OpenSpec.upto (s : _root_.Go.ChangeSpec) : _root_.Go.OpenSpec := { _root_.Go.OpenSpec.ofChange s with cond := some uptoSmall }

/-- 'laws.FnExactAddHeavy', WHERE WHAT IT READS IS OF BULK AT MOST 1048576: true; the input reads as it did. -/
def fnExactAddHeavyUptoRow : OpenClaim := { program := "yticgejaaoamhmao", sum := "8367c8aef5a2c6ed5abddbd02c32719a2980bb62af878a9411c403b1278d9fdc", func := "loop.example/g00522/laws.FnExactAddHeavy", spec := "fnExactAddHeavy", unfollowed := true, recurses := true, apart := false, narrowed := true }
def FnExactAddHeavyUptoSaid : Prop := fnExactAddHeavyUptoRow.holds Try.pinned (OpenSpec.upto fnExactAddHeavySpec)

/-- 'laws.FnExactLeastOf', WHERE WHAT IT READS IS OF BULK AT MOST 1048576: true; the input reads as it did. -/
def fnExactLeastOfUptoRow : OpenClaim := { program := "yticgejaaoamhmao", sum := "8367c8aef5a2c6ed5abddbd02c32719a2980bb62af878a9411c403b1278d9fdc", func := "loop.example/g00522/laws.FnExactLeastOf", spec := "fnExactLeastOf", unfollowed := true, recurses := true, apart := false, narrowed := true }
def FnExactLeastOfUptoSaid : Prop := fnExactLeastOfUptoRow.holds Try.pinned (OpenSpec.upto fnExactLeastOfSpec)

/-- 'laws.FnExactFeedHeavy', WHERE WHAT IT READS IS OF BULK AT MOST 1048576: true; the input reads as it did. -/
def fnExactFeedHeavyUptoRow : OpenClaim := { program := "yticgejaaoamhmao", sum := "8367c8aef5a2c6ed5abddbd02c32719a2980bb62af878a9411c403b1278d9fdc", func := "loop.example/g00522/laws.FnExactFeedHeavy", spec := "fnExactFeedHeavy", unfollowed := true, recurses := true, apart := false, narrowed := true }
def FnExactFeedHeavyUptoSaid : Prop := fnExactFeedHeavyUptoRow.holds Try.pinned (OpenSpec.upto fnExactFeedHeavySpec)

/-- 'laws.FnExactCounterOk', WHERE WHAT IT READS IS OF BULK AT MOST 1048576: true; the input reads as it did. -/
def fnExactCounterOkUptoRow : OpenClaim := { program := "yticgejaaoamhmao", sum := "8367c8aef5a2c6ed5abddbd02c32719a2980bb62af878a9411c403b1278d9fdc", func := "loop.example/g00522/laws.FnExactCounterOk", spec := "fnExactCounterOk", unfollowed := true, recurses := true, apart := false, narrowed := true }
def FnExactCounterOkUptoSaid : Prop := fnExactCounterOkUptoRow.holds Try.pinned (OpenSpec.upto fnExactCounterOkSpec)

/-- 'laws.FnExactRiseOf', WHERE WHAT IT READS IS OF BULK AT MOST 1048576: true; the input reads as it did. -/
def fnExactRiseOfUptoRow : OpenClaim := { program := "yticgejaaoamhmao", sum := "8367c8aef5a2c6ed5abddbd02c32719a2980bb62af878a9411c403b1278d9fdc", func := "loop.example/g00522/laws.FnExactRiseOf", spec := "fnExactRiseOf", unfollowed := true, recurses := true, apart := false, narrowed := true }
def FnExactRiseOfUptoSaid : Prop := fnExactRiseOfUptoRow.holds Try.pinned (OpenSpec.upto fnExactRiseOfSpec)

/-- 'laws.FnExactResetsIn', WHERE WHAT IT READS IS OF BULK AT MOST 1048576: true; the input reads as it did. -/
def fnExactResetsInUptoRow : OpenClaim := { program := "yticgejaaoamhmao", sum := "8367c8aef5a2c6ed5abddbd02c32719a2980bb62af878a9411c403b1278d9fdc", func := "loop.example/g00522/laws.FnExactResetsIn", spec := "fnExactResetsIn", unfollowed := true, recurses := true, apart := false, narrowed := true }
def FnExactResetsInUptoSaid : Prop := fnExactResetsInUptoRow.holds Try.pinned (OpenSpec.upto fnExactResetsInSpec)

end Rows
end Go.Proofs.Yticgejaaoamhmao
