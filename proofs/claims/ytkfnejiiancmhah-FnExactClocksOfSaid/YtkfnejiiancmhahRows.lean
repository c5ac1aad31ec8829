/-
  No cell of these rows narrows 'for every input' (looked for: loops, veiled, ifaces, maps, wideKeys, modest, calm, conditions, laid).
  DERIVED. THE GIVEN ROWS OF THIS SEAT. 6 by the template 'for every input the law returns true; each argument reads behind the call as it read before'; 0 by the template 'total and deterministic' (their statements: YtkfnejiiancmhahTotals.lean).
  GIVEN WITH THE SEED: the statements are not yours to turn. If you find one false, say at which input.
  Laid BY PROGRAM, IN A SANDBOX (cutbox-rows.mjs): the forced cells as the released guide's own fill.sh prints them over the translation 2a49e05e7ed8361b… (all of the seat's roots in one cut). By AI agents, Wed Nov 11 2026. No macro, syntax, notation, axiom, sorry.
-/
import Derived.Test.YtkfnejiiancmhahChecked
import GoSem.Claim
import GoSem.ClaimJoined
import GoSem.ClaimMapViews
import Derived.JoinedTies
import Derived.KernelRfl
namespace Go.Proofs.Ytkfnejiiancmhah
/- THE CELL 'sum', in the pinned program and in every row, IS THE sha256 OF THE DUMP (.gsa) THAT YtkfnejiiancmhahProg.lean LOADS. Nothing in Lean hashes anything: it is a label: what it is worth is what the hold of that sum in a sandbox is worth. -/
noncomputable def Try.pinned : Pinned := { name := "ytkfnejiiancmhah", sum := "2a49e05e7ed8361bf88fcdc9643e431ad72df7b7d1d6a3ab841f43bacb9309b6", checked := Try.checked }
namespace Rows
def none {H : Type} : Left H := { results := [], args := [] }

/-- 'laws.FnExactGoodEvents': WHATEVER THE INPUT: true; the input reads as it did. -/
def fnExactGoodEventsSpec : ChangeSpec := { name := "fnExactGoodEvents", fn := fun _ => fun
  | [d1, d2] => { results := [.lit (.bool true)], args := [d1, d2] }
  | _ => none }
def fnExactGoodEventsRow : OpenClaim := { program := "ytkfnejiiancmhah", sum := "2a49e05e7ed8361bf88fcdc9643e431ad72df7b7d1d6a3ab841f43bacb9309b6", func := "loop.example/g00522/laws.FnExactGoodEvents", spec := "fnExactGoodEvents", apart := false }
def FnExactGoodEventsSaid : Prop := fnExactGoodEventsRow.holds Try.pinned (OpenSpec.ofChange fnExactGoodEventsSpec)

/-- ITS FALSE NEIGHBOUR: 'it returns false'. Refute it at one input. -/
def fnExactGoodEventsWrong : ChangeSpec := { name := "fnExactGoodEvents", fn := fun _ => fun
  | [d1, d2] => { results := [.lit (.bool false)], args := [d1, d2] }
  | _ => none }
def FnExactGoodEventsWrongFalsely : Prop := fnExactGoodEventsRow.holds Try.pinned (OpenSpec.ofChange fnExactGoodEventsWrong)

/-- 'laws.FnExactClocksOf': WHATEVER THE INPUT: true; the input reads as it did. -/
def fnExactClocksOfSpec : ChangeSpec := { name := "fnExactClocksOf", fn := fun _ => fun
  | [d1, d2] => { results := [.lit (.bool true)], args := [d1, d2] }
  | _ => none }
def fnExactClocksOfRow : OpenClaim := { program := "ytkfnejiiancmhah", sum := "2a49e05e7ed8361bf88fcdc9643e431ad72df7b7d1d6a3ab841f43bacb9309b6", func := "loop.example/g00522/laws.FnExactClocksOf", spec := "fnExactClocksOf", apart := false }
def FnExactClocksOfSaid : Prop := fnExactClocksOfRow.holds Try.pinned (OpenSpec.ofChange fnExactClocksOfSpec)

/-- ITS FALSE NEIGHBOUR: 'it returns false'. Refute it at one input. -/
def fnExactClocksOfWrong : ChangeSpec := { name := "fnExactClocksOf", fn := fun _ => fun
  | [d1, d2] => { results := [.lit (.bool false)], args := [d1, d2] }
  | _ => none }
def FnExactClocksOfWrongFalsely : Prop := fnExactClocksOfRow.holds Try.pinned (OpenSpec.ofChange fnExactClocksOfWrong)

/-- 'laws.FnExactCameFirst': WHATEVER THE INPUT: true; the input reads as it did. -/
def fnExactCameFirstSpec : ChangeSpec := { name := "fnExactCameFirst", fn := fun _ => fun
  | [d1, d2, d3, d4] => { results := [.lit (.bool true)], args := [d1, d2, d3, d4] }
  | _ => none }
def fnExactCameFirstRow : OpenClaim := { program := "ytkfnejiiancmhah", sum := "2a49e05e7ed8361bf88fcdc9643e431ad72df7b7d1d6a3ab841f43bacb9309b6", func := "loop.example/g00522/laws.FnExactCameFirst", spec := "fnExactCameFirst", apart := false }
def FnExactCameFirstSaid : Prop := fnExactCameFirstRow.holds Try.pinned (OpenSpec.ofChange fnExactCameFirstSpec)

/-- ITS FALSE NEIGHBOUR: 'it returns false'. Refute it at one input. -/
def fnExactCameFirstWrong : ChangeSpec := { name := "fnExactCameFirst", fn := fun _ => fun
  | [d1, d2, d3, d4] => { results := [.lit (.bool false)], args := [d1, d2, d3, d4] }
  | _ => none }
def FnExactCameFirstWrongFalsely : Prop := fnExactCameFirstRow.holds Try.pinned (OpenSpec.ofChange fnExactCameFirstWrong)

/-- 'laws.FnExactLessClock': WHATEVER THE INPUT: true; the input reads as it did. -/
def fnExactLessClockSpec : ChangeSpec := { name := "fnExactLessClock", fn := fun _ => fun
  | [d1, d2] => { results := [.lit (.bool true)], args := [d1, d2] }
  | _ => none }
def fnExactLessClockRow : OpenClaim := { program := "ytkfnejiiancmhah", sum := "2a49e05e7ed8361bf88fcdc9643e431ad72df7b7d1d6a3ab841f43bacb9309b6", func := "loop.example/g00522/laws.FnExactLessClock", spec := "fnExactLessClock", apart := false }
def FnExactLessClockSaid : Prop := fnExactLessClockRow.holds Try.pinned (OpenSpec.ofChange fnExactLessClockSpec)

/-- ITS FALSE NEIGHBOUR: 'it returns false'. Refute it at one input. -/
def fnExactLessClockWrong : ChangeSpec := { name := "fnExactLessClock", fn := fun _ => fun
  | [d1, d2] => { results := [.lit (.bool false)], args := [d1, d2] }
  | _ => none }
def FnExactLessClockWrongFalsely : Prop := fnExactLessClockRow.holds Try.pinned (OpenSpec.ofChange fnExactLessClockWrong)

/-- 'laws.FnExactStampsOf': WHATEVER THE INPUT: true; the input reads as it did. -/
def fnExactStampsOfSpec : ChangeSpec := { name := "fnExactStampsOf", fn := fun _ => fun
  | [d1, d2] => { results := [.lit (.bool true)], args := [d1, d2] }
  | _ => none }
def fnExactStampsOfRow : OpenClaim := { program := "ytkfnejiiancmhah", sum := "2a49e05e7ed8361bf88fcdc9643e431ad72df7b7d1d6a3ab841f43bacb9309b6", func := "loop.example/g00522/laws.FnExactStampsOf", spec := "fnExactStampsOf", apart := false }
def FnExactStampsOfSaid : Prop := fnExactStampsOfRow.holds Try.pinned (OpenSpec.ofChange fnExactStampsOfSpec)

/-- ITS FALSE NEIGHBOUR: 'it returns false'. Refute it at one input. -/
def fnExactStampsOfWrong : ChangeSpec := { name := "fnExactStampsOf", fn := fun _ => fun
  | [d1, d2] => { results := [.lit (.bool false)], args := [d1, d2] }
  | _ => none }
def FnExactStampsOfWrongFalsely : Prop := fnExactStampsOfRow.holds Try.pinned (OpenSpec.ofChange fnExactStampsOfWrong)

/-- 'laws.FnExactIsCut': WHATEVER THE INPUT: true; the input reads as it did. -/
def fnExactIsCutSpec : ChangeSpec := { name := "fnExactIsCut", fn := fun _ => fun
  | [d1, d2, d3] => { results := [.lit (.bool true)], args := [d1, d2, d3] }
  | _ => none }
def fnExactIsCutRow : OpenClaim := { program := "ytkfnejiiancmhah", sum := "2a49e05e7ed8361bf88fcdc9643e431ad72df7b7d1d6a3ab841f43bacb9309b6", func := "loop.example/g00522/laws.FnExactIsCut", spec := "fnExactIsCut", apart := false }
def FnExactIsCutSaid : Prop := fnExactIsCutRow.holds Try.pinned (OpenSpec.ofChange fnExactIsCutSpec)

/-- ITS FALSE NEIGHBOUR: 'it returns false'. Refute it at one input. -/
def fnExactIsCutWrong : ChangeSpec := { name := "fnExactIsCut", fn := fun _ => fun
  | [d1, d2, d3] => { results := [.lit (.bool false)], args := [d1, d2, d3] }
  | _ => none }
def FnExactIsCutWrongFalsely : Prop := fnExactIsCutRow.holds Try.pinned (OpenSpec.ofChange fnExactIsCutWrong)

/- THE SECOND FORM. 'bulk': how many values and letters a reading holds, each counted each time it is reached (what is shared counts as often as it is met; a slice's spare places count too). A statement '..UptoSaid' is the law's where the arguments, and the package variables that the reading takes, are together of bulk at most 1048576: NARROWER than '..Said'. Prove '..Said' where nothing that the law and all that it calls make is longer than what came in: it says more and counts as full. Else prove '..UptoSaid'. A law counts once. -/
mutual
def uptoBulk {H : Type} : DataW H → Nat
  | .lit (.string bytes) => bytes.length + 1
  | .lit _ => 1
  | .nil => 1
  | .ptr d => uptoBulk d + 1
  | .slice elems spare => uptoBulkAll elems + uptoBulkAll spare + 1
  | .agg parts => uptoBulkAll parts + 1
  | .iface _ d => uptoBulk d + 1
  | .map entries => uptoBulkEntries entries + 1
  | .held _ => 1
def uptoBulkAll {H : Type} : List (DataW H) → Nat
  | [] => 0
  | d :: r => uptoBulk d + uptoBulkAll r
def uptoBulkEntries {H : Type} : List (Lit × DataW H) → Nat
  | [] => 0
  | x :: r => uptoBulkEntry x + uptoBulkEntries r
def uptoBulkEntry {H : Type} : Lit × DataW H → Nat
  | (.string bytes, d) => bytes.length + uptoBulk d + 1
  | (_, d) => uptoBulk d + 1
 end
def uptoSmall : (H : Type) → List (DataW H) → Bool := fun _ ds => decide (uptoBulkAll ds ≤ 1048576)
def OpenSpec.upto (s : _root_.Go.ChangeSpec) : _root_.Go.OpenSpec := { _root_.Go.OpenSpec.ofChange s with cond := some uptoSmall }

/-- 'laws.FnExactGoodEvents', WHERE WHAT IT READS IS OF BULK AT MOST 1048576: true; the input reads as it did. -/
def fnExactGoodEventsUptoRow : OpenClaim := { program := "ytkfnejiiancmhah", sum := "2a49e05e7ed8361bf88fcdc9643e431ad72df7b7d1d6a3ab841f43bacb9309b6", func := "loop.example/g00522/laws.FnExactGoodEvents", spec := "fnExactGoodEvents", apart := false, narrowed := true }
def FnExactGoodEventsUptoSaid : Prop := fnExactGoodEventsUptoRow.holds Try.pinned (OpenSpec.upto fnExactGoodEventsSpec)

/-- 'laws.FnExactClocksOf', WHERE WHAT IT READS IS OF BULK AT MOST 1048576: true; the input reads as it did. -/
def fnExactClocksOfUptoRow : OpenClaim := { program := "ytkfnejiiancmhah", sum := "2a49e05e7ed8361bf88fcdc9643e431ad72df7b7d1d6a3ab841f43bacb9309b6", func := "loop.example/g00522/laws.FnExactClocksOf", spec := "fnExactClocksOf", apart := false, narrowed := true }
def FnExactClocksOfUptoSaid : Prop := fnExactClocksOfUptoRow.holds Try.pinned (OpenSpec.upto fnExactClocksOfSpec)

/-- 'laws.FnExactCameFirst', WHERE WHAT IT READS IS OF BULK AT MOST 1048576: true; the input reads as it did. -/
def fnExactCameFirstUptoRow : OpenClaim := { program := "ytkfnejiiancmhah", sum := "2a49e05e7ed8361bf88fcdc9643e431ad72df7b7d1d6a3ab841f43bacb9309b6", func := "loop.example/g00522/laws.FnExactCameFirst", spec := "fnExactCameFirst", apart := false, narrowed := true }
def FnExactCameFirstUptoSaid : Prop := fnExactCameFirstUptoRow.holds Try.pinned (OpenSpec.upto fnExactCameFirstSpec)

/-- 'laws.FnExactLessClock', WHERE WHAT IT READS IS OF BULK AT MOST 1048576: true; the input reads as it did. -/
def fnExactLessClockUptoRow : OpenClaim := { program := "ytkfnejiiancmhah", sum := "2a49e05e7ed8361bf88fcdc9643e431ad72df7b7d1d6a3ab841f43bacb9309b6", func := "loop.example/g00522/laws.FnExactLessClock", spec := "fnExactLessClock", apart := false, narrowed := true }
def FnExactLessClockUptoSaid : Prop := fnExactLessClockUptoRow.holds Try.pinned (OpenSpec.upto fnExactLessClockSpec)

/-- 'laws.FnExactStampsOf', WHERE WHAT IT READS IS OF BULK AT MOST 1048576: true; the input reads as it did. -/
def fnExactStampsOfUptoRow : OpenClaim := { program := "ytkfnejiiancmhah", sum := "2a49e05e7ed8361bf88fcdc9643e431ad72df7b7d1d6a3ab841f43bacb9309b6", func := "loop.example/g00522/laws.FnExactStampsOf", spec := "fnExactStampsOf", apart := false, narrowed := true }
def FnExactStampsOfUptoSaid : Prop := fnExactStampsOfUptoRow.holds Try.pinned (OpenSpec.upto fnExactStampsOfSpec)

/-- 'laws.FnExactIsCut', WHERE WHAT IT READS IS OF BULK AT MOST 1048576: true; the input reads as it did. -/
def fnExactIsCutUptoRow : OpenClaim := { program := "ytkfnejiiancmhah", sum := "2a49e05e7ed8361bf88fcdc9643e431ad72df7b7d1d6a3ab841f43bacb9309b6", func := "loop.example/g00522/laws.FnExactIsCut", spec := "fnExactIsCut", apart := false, narrowed := true }
def FnExactIsCutUptoSaid : Prop := fnExactIsCutUptoRow.holds Try.pinned (OpenSpec.upto fnExactIsCutSpec)

end Rows
end Go.Proofs.Ytkfnejiiancmhah
