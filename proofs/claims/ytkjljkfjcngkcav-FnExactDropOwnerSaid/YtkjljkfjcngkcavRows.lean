/-
  No cell of these rows narrows 'for every input' (looked for: loops, veiled, ifaces, maps, wideKeys, modest, calm, conditions, laid).
  DERIVED. THE GIVEN ROWS OF THIS SEAT. 6 by the template 'for every input the law returns true; each argument reads behind the call as it read before'; 0 by the template 'total and deterministic' (their statements: YtkjljkfjcngkcavTotals.lean).
  GIVEN WITH THE SEED: the statements are not yours to turn. If you find one false, say at which input.
  Laid BY PROGRAM, IN A SANDBOX (cutbox-rows.mjs): the forced cells as the released guide's own fill.sh prints them over the translation 6c17d28c473f58ad… (all of the seat's roots in one cut). By AI agents, Wed Nov 11 2026. No macro, syntax, notation, axiom, sorry.
-/
import Derived.Test.YtkjljkfjcngkcavChecked
import GoSem.Claim
import GoSem.ClaimJoined
import GoSem.ClaimMapViews
import Derived.JoinedTies
import Derived.KernelRfl
namespace Go.Proofs.Ytkjljkfjcngkcav
/- THE CELL 'sum', in the pinned program and in every row, IS THE sha256 OF THE DUMP (.gsa) THAT YtkjljkfjcngkcavProg.lean LOADS. Nothing in Lean hashes anything: it is a label: what it is worth is what the hold of that sum in a sandbox is worth. -/
noncomputable def Try.pinned : Pinned := { name := "ytkjljkfjcngkcav", sum := "6c17d28c473f58ad423a618d1c11147ac2b3cbf669ba1f336266316aacb0c5f3", checked := Try.checked }
namespace Rows
def none {H : Type} : Left H := { results := [], args := [] }

/-- 'laws.FnExactHashText': WHATEVER THE INPUT: true; the input reads as it did. -/
def fnExactHashTextSpec : ChangeSpec := { name := "fnExactHashText", fn := fun _ => fun
  | [d] => { results := [.lit (.bool true)], args := [d] }
  | _ => none }
def fnExactHashTextRow : OpenClaim := { program := "ytkjljkfjcngkcav", sum := "6c17d28c473f58ad423a618d1c11147ac2b3cbf669ba1f336266316aacb0c5f3", func := "loop.example/g00522/laws.FnExactHashText", spec := "fnExactHashText", apart := false }
def FnExactHashTextSaid : Prop := fnExactHashTextRow.holds Try.pinned (OpenSpec.ofChange fnExactHashTextSpec)

/-- ITS FALSE NEIGHBOUR: 'it returns false'. Refute it at one input. -/
def fnExactHashTextWrong : ChangeSpec := { name := "fnExactHashText", fn := fun _ => fun
  | [d] => { results := [.lit (.bool false)], args := [d] }
  | _ => none }
def FnExactHashTextWrongFalsely : Prop := fnExactHashTextRow.holds Try.pinned (OpenSpec.ofChange fnExactHashTextWrong)

/-- 'laws.FnExactGoodRing': WHATEVER THE INPUT: true; the input reads as it did. -/
def fnExactGoodRingSpec : ChangeSpec := { name := "fnExactGoodRing", fn := fun _ => fun
  | [d] => { results := [.lit (.bool true)], args := [d] }
  | _ => none }
def fnExactGoodRingRow : OpenClaim := { program := "ytkjljkfjcngkcav", sum := "6c17d28c473f58ad423a618d1c11147ac2b3cbf669ba1f336266316aacb0c5f3", func := "loop.example/g00522/laws.FnExactGoodRing", spec := "fnExactGoodRing", apart := false }
def FnExactGoodRingSaid : Prop := fnExactGoodRingRow.holds Try.pinned (OpenSpec.ofChange fnExactGoodRingSpec)

/-- ITS FALSE NEIGHBOUR: 'it returns false'. Refute it at one input. -/
def fnExactGoodRingWrong : ChangeSpec := { name := "fnExactGoodRing", fn := fun _ => fun
  | [d] => { results := [.lit (.bool false)], args := [d] }
  | _ => none }
def FnExactGoodRingWrongFalsely : Prop := fnExactGoodRingRow.holds Try.pinned (OpenSpec.ofChange fnExactGoodRingWrong)

/-- 'laws.FnExactOwnerOf': WHATEVER THE INPUT: true; the input reads as it did. -/
def fnExactOwnerOfSpec : ChangeSpec := { name := "fnExactOwnerOf", fn := fun _ => fun
  | [d1, d2] => { results := [.lit (.bool true)], args := [d1, d2] }
  | _ => none }
def fnExactOwnerOfRow : OpenClaim := { program := "ytkjljkfjcngkcav", sum := "6c17d28c473f58ad423a618d1c11147ac2b3cbf669ba1f336266316aacb0c5f3", func := "loop.example/g00522/laws.FnExactOwnerOf", spec := "fnExactOwnerOf", apart := false }
def FnExactOwnerOfSaid : Prop := fnExactOwnerOfRow.holds Try.pinned (OpenSpec.ofChange fnExactOwnerOfSpec)

/-- ITS FALSE NEIGHBOUR: 'it returns false'. Refute it at one input. -/
def fnExactOwnerOfWrong : ChangeSpec := { name := "fnExactOwnerOf", fn := fun _ => fun
  | [d1, d2] => { results := [.lit (.bool false)], args := [d1, d2] }
  | _ => none }
def FnExactOwnerOfWrongFalsely : Prop := fnExactOwnerOfRow.holds Try.pinned (OpenSpec.ofChange fnExactOwnerOfWrong)

/-- 'laws.FnExactAddOwner': WHATEVER THE INPUT: true; the input reads as it did. -/
def fnExactAddOwnerSpec : ChangeSpec := { name := "fnExactAddOwner", fn := fun _ => fun
  | [d1, d2, d3] => { results := [.lit (.bool true)], args := [d1, d2, d3] }
  | _ => none }
def fnExactAddOwnerRow : OpenClaim := { program := "ytkjljkfjcngkcav", sum := "6c17d28c473f58ad423a618d1c11147ac2b3cbf669ba1f336266316aacb0c5f3", func := "loop.example/g00522/laws.FnExactAddOwner", spec := "fnExactAddOwner", unfollowed := true, recurses := true, apart := false }
def FnExactAddOwnerSaid : Prop := fnExactAddOwnerRow.holds Try.pinned (OpenSpec.ofChange fnExactAddOwnerSpec)

/-- ITS FALSE NEIGHBOUR: 'it returns false'. Refute it at one input. -/
def fnExactAddOwnerWrong : ChangeSpec := { name := "fnExactAddOwner", fn := fun _ => fun
  | [d1, d2, d3] => { results := [.lit (.bool false)], args := [d1, d2, d3] }
  | _ => none }
def FnExactAddOwnerWrongFalsely : Prop := fnExactAddOwnerRow.holds Try.pinned (OpenSpec.ofChange fnExactAddOwnerWrong)

/-- 'laws.FnExactDropOwner': WHATEVER THE INPUT: true; the input reads as it did. -/
def fnExactDropOwnerSpec : ChangeSpec := { name := "fnExactDropOwner", fn := fun _ => fun
  | [d1, d2] => { results := [.lit (.bool true)], args := [d1, d2] }
  | _ => none }
def fnExactDropOwnerRow : OpenClaim := { program := "ytkjljkfjcngkcav", sum := "6c17d28c473f58ad423a618d1c11147ac2b3cbf669ba1f336266316aacb0c5f3", func := "loop.example/g00522/laws.FnExactDropOwner", spec := "fnExactDropOwner", apart := false }
def FnExactDropOwnerSaid : Prop := fnExactDropOwnerRow.holds Try.pinned (OpenSpec.ofChange fnExactDropOwnerSpec)

/-- ITS FALSE NEIGHBOUR: 'it returns false'. Refute it at one input. -/
def fnExactDropOwnerWrong : ChangeSpec := { name := "fnExactDropOwner", fn := fun _ => fun
  | [d1, d2] => { results := [.lit (.bool false)], args := [d1, d2] }
  | _ => none }
def FnExactDropOwnerWrongFalsely : Prop := fnExactDropOwnerRow.holds Try.pinned (OpenSpec.ofChange fnExactDropOwnerWrong)

/-- 'laws.FnExactOwnersOf': WHATEVER THE INPUT: true; the input reads as it did. -/
def fnExactOwnersOfSpec : ChangeSpec := { name := "fnExactOwnersOf", fn := fun _ => fun
  | [d1, d2, d3] => { results := [.lit (.bool true)], args := [d1, d2, d3] }
  | _ => none }
def fnExactOwnersOfRow : OpenClaim := { program := "ytkjljkfjcngkcav", sum := "6c17d28c473f58ad423a618d1c11147ac2b3cbf669ba1f336266316aacb0c5f3", func := "loop.example/g00522/laws.FnExactOwnersOf", spec := "fnExactOwnersOf", apart := false }
def FnExactOwnersOfSaid : Prop := fnExactOwnersOfRow.holds Try.pinned (OpenSpec.ofChange fnExactOwnersOfSpec)

/-- ITS FALSE NEIGHBOUR: 'it returns false'. Refute it at one input. -/
def fnExactOwnersOfWrong : ChangeSpec := { name := "fnExactOwnersOf", fn := fun _ => fun
  | [d1, d2, d3] => { results := [.lit (.bool false)], args := [d1, d2, d3] }
  | _ => none }
def FnExactOwnersOfWrongFalsely : Prop := fnExactOwnersOfRow.holds Try.pinned (OpenSpec.ofChange fnExactOwnersOfWrong)

/- THE SECOND FORM. 'bulk': how many values and letters a reading holds, each counted each time it is reached (what is shared counts as often as it is met; a slice's spare places count too). A statement '..UptoSaid' is the law's where the arguments, and the package variables that the reading takes, are together of bulk at most 1048576: NARROWER than '..Said'. Prove '..Said' where nothing that the law and all that it calls make is longer than what came in: it says more and counts as full. Else prove '..UptoSaid'. A law counts once. -/
mutual
def uptoBulk {H : Type} : DataW H → Nat
  | .lit (.string bytes) => bytes.length + 1
  | .lit _ => 1
  | .nil => 1
  | .ptr d => uptoBulk d + 1
  | .slice elems spare => uptoBulkAll elems + uptoBulkAll spare + 1
  | .agg parts => uptoBulkAll parts + 1
  | .iface _ d => uptoBulk d + 1
  | .map entries => uptoBulkEntries entries + 1
  | .held _ => 1
def uptoBulkAll {H : Type} : List (DataW H) → Nat
  | [] => 0
  | d :: r => uptoBulk d + uptoBulkAll r
def uptoBulkEntries {H : Type} : List (Lit × DataW H) → Nat
  | [] => 0
  | x :: r => uptoBulkEntry x + uptoBulkEntries r
def uptoBulkEntry {H : Type} : Lit × DataW H → Nat
  | (.string bytes, d) => bytes.length + uptoBulk d + 1
  | (_, d) => uptoBulk d + 1
 end
def uptoSmall : (H : Type) → List (DataW H) → Bool := fun _ ds => decide (uptoBulkAll ds ≤ 1048576)
def OpenSpec.upto (s : _root_.Go.ChangeSpec) : _root_.Go.OpenSpec := { _root_.Go.OpenSpec.ofChange s with cond := some uptoSmall }

/-- 'laws.FnExactHashText', WHERE WHAT IT READS IS OF BULK AT MOST 1048576: true; the input reads as it did. -/
def fnExactHashTextUptoRow : OpenClaim := { program := "ytkjljkfjcngkcav", sum := "6c17d28c473f58ad423a618d1c11147ac2b3cbf669ba1f336266316aacb0c5f3", func := "loop.example/g00522/laws.FnExactHashText", spec := "fnExactHashText", apart := false, narrowed := true }
def FnExactHashTextUptoSaid : Prop := fnExactHashTextUptoRow.holds Try.pinned (OpenSpec.upto fnExactHashTextSpec)

/-- 'laws.FnExactGoodRing', WHERE WHAT IT READS IS OF BULK AT MOST 1048576: true; the input reads as it did. -/
def fnExactGoodRingUptoRow : OpenClaim := { program := "ytkjljkfjcngkcav", sum := "6c17d28c473f58ad423a618d1c11147ac2b3cbf669ba1f336266316aacb0c5f3", func := "loop.example/g00522/laws.FnExactGoodRing", spec := "fnExactGoodRing", apart := false, narrowed := true }
def FnExactGoodRingUptoSaid : Prop := fnExactGoodRingUptoRow.holds Try.pinned (OpenSpec.upto fnExactGoodRingSpec)

/-- 'laws.FnExactOwnerOf', WHERE WHAT IT READS IS OF BULK AT MOST 1048576: true; the input reads as it did. -/
def fnExactOwnerOfUptoRow : OpenClaim := { program := "ytkjljkfjcngkcav", sum := "6c17d28c473f58ad423a618d1c11147ac2b3cbf669ba1f336266316aacb0c5f3", func := "loop.example/g00522/laws.FnExactOwnerOf", spec := "fnExactOwnerOf", apart := false, narrowed := true }
def FnExactOwnerOfUptoSaid : Prop := fnExactOwnerOfUptoRow.holds Try.pinned (OpenSpec.upto fnExactOwnerOfSpec)

/-- 'laws.FnExactAddOwner', WHERE WHAT IT READS IS OF BULK AT MOST 1048576: true; the input reads as it did. -/
def fnExactAddOwnerUptoRow : OpenClaim := { program := "ytkjljkfjcngkcav", sum := "6c17d28c473f58ad423a618d1c11147ac2b3cbf669ba1f336266316aacb0c5f3", func := "loop.example/g00522/laws.FnExactAddOwner", spec := "fnExactAddOwner", unfollowed := true, recurses := true, apart := false, narrowed := true }
def FnExactAddOwnerUptoSaid : Prop := fnExactAddOwnerUptoRow.holds Try.pinned (OpenSpec.upto fnExactAddOwnerSpec)

/-- 'laws.FnExactDropOwner', WHERE WHAT IT READS IS OF BULK AT MOST 1048576: true; the input reads as it did. -/
def fnExactDropOwnerUptoRow : OpenClaim := { program := "ytkjljkfjcngkcav", sum := "6c17d28c473f58ad423a618d1c11147ac2b3cbf669ba1f336266316aacb0c5f3", func := "loop.example/g00522/laws.FnExactDropOwner", spec := "fnExactDropOwner", apart := false, narrowed := true }
def FnExactDropOwnerUptoSaid : Prop := fnExactDropOwnerUptoRow.holds Try.pinned (OpenSpec.upto fnExactDropOwnerSpec)

/-- 'laws.FnExactOwnersOf', WHERE WHAT IT READS IS OF BULK AT MOST 1048576: true; the input reads as it did. -/
def fnExactOwnersOfUptoRow : OpenClaim := { program := "ytkjljkfjcngkcav", sum := "6c17d28c473f58ad423a618d1c11147ac2b3cbf669ba1f336266316aacb0c5f3", func := "loop.example/g00522/laws.FnExactOwnersOf", spec := "fnExactOwnersOf", apart := false, narrowed := true }
def FnExactOwnersOfUptoSaid : Prop := fnExactOwnersOfUptoRow.holds Try.pinned (OpenSpec.upto fnExactOwnersOfSpec)

end Rows
end Go.Proofs.Ytkjljkfjcngkcav
