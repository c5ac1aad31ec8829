/-
  No cell of these rows narrows 'for every input' (looked for: loops, veiled, ifaces, maps, wideKeys, modest, calm, conditions, laid).
  DERIVED. THE GIVEN ROWS OF THIS SEAT. 6 by the template 'for every input the law returns true; each argument reads behind the call as it read before'; 0 by the template 'total and deterministic' (their statements: YtbcnkglcfjineajTotals.lean).
  GIVEN WITH THE SEED: the statements are not yours to turn. If you find one false, say at which input.
  Laid BY PROGRAM, IN A SANDBOX (cutbox-rows.mjs): the forced cells as the released guide's own fill.sh prints them over the translation bdae97005c20c07f… (all of the seat's roots in one cut). By AI agents, Wed Nov 11 2026. No macro, syntax, notation, axiom, sorry.
-/
import Derived.Test.YtbcnkglcfjineajChecked
import GoSem.Claim
import GoSem.ClaimJoined
import GoSem.ClaimMapViews
import Derived.JoinedTies
import Derived.KernelRfl
namespace Go.Proofs.Ytbcnkglcfjineaj
/- THE CELL 'sum', in the pinned program and in every row, IS THE sha256 OF THE DUMP (.gsa) THAT YtbcnkglcfjineajProg.lean LOADS. Nothing in Lean hashes anything: it is a label: what it is worth is what the hold of that sum in a sandbox is worth. -/
noncomputable def Try.pinned : Pinned := { name := "ytbcnkglcfjineaj", sum := "bdae97005c20c07f333ea1f44ecca9f970902f3f9c768745658491dedbb42be6", checked := Try.checked }
namespace Rows
def none {H : Type} : Left H := { results := [], args := [] }

/-- 'laws.FnExactTotalIn': WHATEVER THE INPUT: true; the input reads as it did. -/
def fnExactTotalInSpec : ChangeSpec := { name := "fnExactTotalIn", fn := fun _ => fun
  | [d] => { results := [.lit (.bool true)], args := [d] }
  | _ => none }
def fnExactTotalInRow : OpenClaim := { program := "ytbcnkglcfjineaj", sum := "bdae97005c20c07f333ea1f44ecca9f970902f3f9c768745658491dedbb42be6", func := "loop.example/g00522/laws.FnExactTotalIn", spec := "fnExactTotalIn", unfollowed := true, recurses := true, apart := false }
def FnExactTotalInSaid : Prop := fnExactTotalInRow.holds Try.pinned (OpenSpec.ofChange fnExactTotalInSpec)

/-- ITS FALSE NEIGHBOUR: 'it returns false'. Refute it at one input. -/
def fnExactTotalInWrong : ChangeSpec := { name := "fnExactTotalIn", fn := fun _ => fun
  | [d] => { results := [.lit (.bool false)], args := [d] }
  | _ => none }
def FnExactTotalInWrongFalsely : Prop := fnExactTotalInRow.holds Try.pinned (OpenSpec.ofChange fnExactTotalInWrong)

/-- 'laws.FnExactPictureOf': WHATEVER THE INPUT: true; the input reads as it did. -/
def fnExactPictureOfSpec : ChangeSpec := { name := "fnExactPictureOf", fn := fun _ => fun
  | [d] => { results := [.lit (.bool true)], args := [d] }
  | _ => none }
def fnExactPictureOfRow : OpenClaim := { program := "ytbcnkglcfjineaj", sum := "bdae97005c20c07f333ea1f44ecca9f970902f3f9c768745658491dedbb42be6", func := "loop.example/g00522/laws.FnExactPictureOf", spec := "fnExactPictureOf", unfollowed := true, recurses := true, apart := false }
def FnExactPictureOfSaid : Prop := fnExactPictureOfRow.holds Try.pinned (OpenSpec.ofChange fnExactPictureOfSpec)

/-- ITS FALSE NEIGHBOUR: 'it returns false'. Refute it at one input. -/
def fnExactPictureOfWrong : ChangeSpec := { name := "fnExactPictureOf", fn := fun _ => fun
  | [d] => { results := [.lit (.bool false)], args := [d] }
  | _ => none }
def FnExactPictureOfWrongFalsely : Prop := fnExactPictureOfRow.holds Try.pinned (OpenSpec.ofChange fnExactPictureOfWrong)

/-- 'laws.FnExactIsTaken': WHATEVER THE INPUT: true; the input reads as it did. -/
def fnExactIsTakenSpec : ChangeSpec := { name := "fnExactIsTaken", fn := fun _ => fun
  | [d] => { results := [.lit (.bool true)], args := [d] }
  | _ => none }
def fnExactIsTakenRow : OpenClaim := { program := "ytbcnkglcfjineaj", sum := "bdae97005c20c07f333ea1f44ecca9f970902f3f9c768745658491dedbb42be6", func := "loop.example/g00522/laws.FnExactIsTaken", spec := "fnExactIsTaken", unfollowed := true, recurses := true, apart := false }
def FnExactIsTakenSaid : Prop := fnExactIsTakenRow.holds Try.pinned (OpenSpec.ofChange fnExactIsTakenSpec)

/-- ITS FALSE NEIGHBOUR: 'it returns false'. Refute it at one input. -/
def fnExactIsTakenWrong : ChangeSpec := { name := "fnExactIsTaken", fn := fun _ => fun
  | [d] => { results := [.lit (.bool false)], args := [d] }
  | _ => none }
def FnExactIsTakenWrongFalsely : Prop := fnExactIsTakenRow.holds Try.pinned (OpenSpec.ofChange fnExactIsTakenWrong)

/-- 'laws.FnExactWayAt': WHATEVER THE INPUT: true; the input reads as it did. -/
def fnExactWayAtSpec : ChangeSpec := { name := "fnExactWayAt", fn := fun _ => fun
  | [d1, d2, d3] => { results := [.lit (.bool true)], args := [d1, d2, d3] }
  | _ => none }
def fnExactWayAtRow : OpenClaim := { program := "ytbcnkglcfjineaj", sum := "bdae97005c20c07f333ea1f44ecca9f970902f3f9c768745658491dedbb42be6", func := "loop.example/g00522/laws.FnExactWayAt", spec := "fnExactWayAt", apart := false }
def FnExactWayAtSaid : Prop := fnExactWayAtRow.holds Try.pinned (OpenSpec.ofChange fnExactWayAtSpec)

/-- ITS FALSE NEIGHBOUR: 'it returns false'. Refute it at one input. -/
def fnExactWayAtWrong : ChangeSpec := { name := "fnExactWayAt", fn := fun _ => fun
  | [d1, d2, d3] => { results := [.lit (.bool false)], args := [d1, d2, d3] }
  | _ => none }
def FnExactWayAtWrongFalsely : Prop := fnExactWayAtRow.holds Try.pinned (OpenSpec.ofChange fnExactWayAtWrong)

/-- 'laws.FnExactNewHead': WHATEVER THE INPUT: true; the input reads as it did. -/
def fnExactNewHeadSpec : ChangeSpec := { name := "fnExactNewHead", fn := fun _ => fun
  | [d] => { results := [.lit (.bool true)], args := [d] }
  | _ => none }
def fnExactNewHeadRow : OpenClaim := { program := "ytbcnkglcfjineaj", sum := "bdae97005c20c07f333ea1f44ecca9f970902f3f9c768745658491dedbb42be6", func := "loop.example/g00522/laws.FnExactNewHead", spec := "fnExactNewHead", apart := false }
def FnExactNewHeadSaid : Prop := fnExactNewHeadRow.holds Try.pinned (OpenSpec.ofChange fnExactNewHeadSpec)

/-- ITS FALSE NEIGHBOUR: 'it returns false'. Refute it at one input. -/
def fnExactNewHeadWrong : ChangeSpec := { name := "fnExactNewHead", fn := fun _ => fun
  | [d] => { results := [.lit (.bool false)], args := [d] }
  | _ => none }
def FnExactNewHeadWrongFalsely : Prop := fnExactNewHeadRow.holds Try.pinned (OpenSpec.ofChange fnExactNewHeadWrong)

/-- 'laws.FnExactGoodHead': WHATEVER THE INPUT: true; the input reads as it did. -/
def fnExactGoodHeadSpec : ChangeSpec := { name := "fnExactGoodHead", fn := fun _ => fun
  | [d] => { results := [.lit (.bool true)], args := [d] }
  | _ => none }
def fnExactGoodHeadRow : OpenClaim := { program := "ytbcnkglcfjineaj", sum := "bdae97005c20c07f333ea1f44ecca9f970902f3f9c768745658491dedbb42be6", func := "loop.example/g00522/laws.FnExactGoodHead", spec := "fnExactGoodHead", unfollowed := true, recurses := true, apart := false }
def FnExactGoodHeadSaid : Prop := fnExactGoodHeadRow.holds Try.pinned (OpenSpec.ofChange fnExactGoodHeadSpec)

/-- ITS FALSE NEIGHBOUR: 'it returns false'. Refute it at one input. -/
def fnExactGoodHeadWrong : ChangeSpec := { name := "fnExactGoodHead", fn := fun _ => fun
  | [d] => { results := [.lit (.bool false)], args := [d] }
  | _ => none }
def FnExactGoodHeadWrongFalsely : Prop := fnExactGoodHeadRow.holds Try.pinned (OpenSpec.ofChange fnExactGoodHeadWrong)

/- THE SECOND FORM. 'bulk': how many values and letters a reading holds, each counted each time it is reached (what is shared counts as often as it is met; a slice's spare places count too). A statement '..UptoSaid' is the law's where the arguments, and the package variables that the reading takes, are together of bulk at most 1048576: NARROWER than '..Said'. Prove '..Said' where nothing that the law and all that it calls make is longer than what came in: it says more and counts as full. Else prove '..UptoSaid'. A law counts once. -/
mutual
def uptoBulk {H : Type} : DataW H → Nat
  | .lit (.string bytes) => bytes.length + 1
  | .lit _ => 1
  | .nil => 1
  | .ptr d => uptoBulk d + 1
  | .slice elems spare => uptoBulkAll elems + uptoBulkAll spare + 1
  | .agg parts => uptoBulkAll parts + 1
  | .iface _ d => uptoBulk d + 1
  | .map entries => uptoBulkEntries entries + 1
  | .held _ => 1
def uptoBulkAll {H : Type} : List (DataW H) → Nat
  | [] => 0
  | d :: r => uptoBulk d + uptoBulkAll r
def uptoBulkEntries {H : Type} : List (Lit × DataW H) → Nat
  | [] => 0
  | x :: r => uptoBulkEntry x + uptoBulkEntries r
def uptoBulkEntry {H : Type} : Lit × DataW H → Nat
  | (.string bytes, d) => bytes.length + uptoBulk d + 1
  | (_, d) => uptoBulk d + 1
 end
def uptoSmall : (H : Type) → List (DataW H) → Bool := fun _ ds => decide (uptoBulkAll ds ≤ 1048576)
def OpenSpec.upto (s : _root_.Go.ChangeSpec) : _root_.Go.OpenSpec := { _root_.Go.OpenSpec.ofChange s with cond := some uptoSmall }

/-- 'laws.FnExactTotalIn', WHERE WHAT IT READS IS OF BULK AT MOST 1048576: true; the input reads as it did. -/
def fnExactTotalInUptoRow : OpenClaim := { program := "ytbcnkglcfjineaj", sum := "bdae97005c20c07f333ea1f44ecca9f970902f3f9c768745658491dedbb42be6", func := "loop.example/g00522/laws.FnExactTotalIn", spec := "fnExactTotalIn", unfollowed := true, recurses := true, apart := false, narrowed := true }
def FnExactTotalInUptoSaid : Prop := fnExactTotalInUptoRow.holds Try.pinned (OpenSpec.upto fnExactTotalInSpec)

/-- 'laws.FnExactPictureOf', WHERE WHAT IT READS IS OF BULK AT MOST 1048576: true; the input reads as it did. -/
def fnExactPictureOfUptoRow : OpenClaim := { program := "ytbcnkglcfjineaj", sum := "bdae97005c20c07f333ea1f44ecca9f970902f3f9c768745658491dedbb42be6", func := "loop.example/g00522/laws.FnExactPictureOf", spec := "fnExactPictureOf", unfollowed := true, recurses := true, apart := false, narrowed := true }
def FnExactPictureOfUptoSaid : Prop := fnExactPictureOfUptoRow.holds Try.pinned (OpenSpec.upto fnExactPictureOfSpec)

/-- 'laws.FnExactIsTaken', WHERE WHAT IT READS IS OF BULK AT MOST 1048576: true; the input reads as it did. -/
def fnExactIsTakenUptoRow : OpenClaim := { program := "ytbcnkglcfjineaj", sum := "bdae97005c20c07f333ea1f44ecca9f970902f3f9c768745658491dedbb42be6", func := "loop.example/g00522/laws.FnExactIsTaken", spec := "fnExactIsTaken", unfollowed := true, recurses := true, apart := false, narrowed := true }
def FnExactIsTakenUptoSaid : Prop := fnExactIsTakenUptoRow.holds Try.pinned (OpenSpec.upto fnExactIsTakenSpec)

/-- 'laws.FnExactWayAt', WHERE WHAT IT READS IS OF BULK AT MOST 1048576: true; the input reads as it did. -/
def fnExactWayAtUptoRow : OpenClaim := { program := "ytbcnkglcfjineaj", sum := "bdae97005c20c07f333ea1f44ecca9f970902f3f9c768745658491dedbb42be6", func := "loop.example/g00522/laws.FnExactWayAt", spec := "fnExactWayAt", apart := false, narrowed := true }
def FnExactWayAtUptoSaid : Prop := fnExactWayAtUptoRow.holds Try.pinned (OpenSpec.upto fnExactWayAtSpec)

/-- 'laws.FnExactNewHead', WHERE WHAT IT READS IS OF BULK AT MOST 1048576: true; the input reads as it did. -/
def fnExactNewHeadUptoRow : OpenClaim := { program := "ytbcnkglcfjineaj", sum := "bdae97005c20c07f333ea1f44ecca9f970902f3f9c768745658491dedbb42be6", func := "loop.example/g00522/laws.FnExactNewHead", spec := "fnExactNewHead", apart := false, narrowed := true }
def FnExactNewHeadUptoSaid : Prop := fnExactNewHeadUptoRow.holds Try.pinned (OpenSpec.upto fnExactNewHeadSpec)

/-- 'laws.FnExactGoodHead', WHERE WHAT IT READS IS OF BULK AT MOST 1048576: true; the input reads as it did. -/
def fnExactGoodHeadUptoRow : OpenClaim := { program := "ytbcnkglcfjineaj", sum := "bdae97005c20c07f333ea1f44ecca9f970902f3f9c768745658491dedbb42be6", func := "loop.example/g00522/laws.FnExactGoodHead", spec := "fnExactGoodHead", unfollowed := true, recurses := true, apart := false, narrowed := true }
def FnExactGoodHeadUptoSaid : Prop := fnExactGoodHeadUptoRow.holds Try.pinned (OpenSpec.upto fnExactGoodHeadSpec)

end Rows
end Go.Proofs.Ytbcnkglcfjineaj
