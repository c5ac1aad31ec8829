/-
  No cell of these rows narrows 'for every input' (looked for: loops, veiled, ifaces, maps, wideKeys, modest, calm, conditions, laid).
  DERIVED. THE GIVEN ROWS OF THIS SEAT. 6 by the template 'for every input the law returns true; each argument reads behind the call as it read before'; 0 by the template 'total and deterministic' (their statements: YtkdiffpbljohkaxTotals.lean).
  GIVEN WITH THE SEED: the statements are not yours to turn. If you find one false, say at which input.
  Laid BY PROGRAM, IN A SANDBOX (cutbox-rows.mjs): the forced cells as the released guide's own fill.sh prints them over the translation 2ad57d6039b570d9… (all of the seat's roots in one cut). By AI agents, Wed Nov 11 2026. No macro, syntax, notation, axiom, sorry.
-/
import Derived.Test.YtkdiffpbljohkaxChecked
import GoSem.Claim
import GoSem.ClaimJoined
import GoSem.ClaimMapViews
import Derived.JoinedTies
import Derived.KernelRfl
namespace Go.Proofs.Ytkdiffpbljohkax
/- THE CELL 'sum', in the pinned program and in every row, IS THE sha256 OF THE DUMP (.gsa) THAT YtkdiffpbljohkaxProg.lean LOADS. Nothing in Lean hashes anything: it is a label: what it is worth is what the hold of that sum in a sandbox is worth. -/
noncomputable def Try.pinned : Pinned := { name := "ytkdiffpbljohkax", sum := "2ad57d6039b570d9e8ae34e258f4236d96761a57448ba7172cfa90d2a4f2b2cc", checked := Try.checked }
namespace Rows
def none {H : Type} : Left H := { results := [], args := [] }

/-- 'laws.FnExactPostsOf': WHATEVER THE INPUT: true; the input reads as it did. -/
def fnExactPostsOfSpec : ChangeSpec := { name := "fnExactPostsOf", fn := fun _ => fun
  | [d1, d2] => { results := [.lit (.bool true)], args := [d1, d2] }
  | _ => none }
def fnExactPostsOfRow : OpenClaim := { program := "ytkdiffpbljohkax", sum := "2ad57d6039b570d9e8ae34e258f4236d96761a57448ba7172cfa90d2a4f2b2cc", func := "loop.example/g00522/laws.FnExactPostsOf", spec := "fnExactPostsOf", unfollowed := true, recurses := true, apart := false }
def FnExactPostsOfSaid : Prop := fnExactPostsOfRow.holds Try.pinned (OpenSpec.ofChange fnExactPostsOfSpec)

/-- ITS FALSE NEIGHBOUR: 'it returns false'. Refute it at one input. -/
def fnExactPostsOfWrong : ChangeSpec := { name := "fnExactPostsOf", fn := fun _ => fun
  | [d1, d2] => { results := [.lit (.bool false)], args := [d1, d2] }
  | _ => none }
def FnExactPostsOfWrongFalsely : Prop := fnExactPostsOfRow.holds Try.pinned (OpenSpec.ofChange fnExactPostsOfWrong)

/-- 'laws.FnExactEvalQuery': WHATEVER THE INPUT: true; the input reads as it did. -/
def fnExactEvalQuerySpec : ChangeSpec := { name := "fnExactEvalQuery", fn := fun _ => fun
  | [d1, d2] => { results := [.lit (.bool true)], args := [d1, d2] }
  | _ => none }
def fnExactEvalQueryRow : OpenClaim := { program := "ytkdiffpbljohkax", sum := "2ad57d6039b570d9e8ae34e258f4236d96761a57448ba7172cfa90d2a4f2b2cc", func := "loop.example/g00522/laws.FnExactEvalQuery", spec := "fnExactEvalQuery", unfollowed := true, recurses := true, apart := false }
def FnExactEvalQuerySaid : Prop := fnExactEvalQueryRow.holds Try.pinned (OpenSpec.ofChange fnExactEvalQuerySpec)

/-- ITS FALSE NEIGHBOUR: 'it returns false'. Refute it at one input. -/
def fnExactEvalQueryWrong : ChangeSpec := { name := "fnExactEvalQuery", fn := fun _ => fun
  | [d1, d2] => { results := [.lit (.bool false)], args := [d1, d2] }
  | _ => none }
def FnExactEvalQueryWrongFalsely : Prop := fnExactEvalQueryRow.holds Try.pinned (OpenSpec.ofChange fnExactEvalQueryWrong)

/-- 'laws.FnExactGoodQuery': WHATEVER THE INPUT: true; the input reads as it did. -/
def fnExactGoodQuerySpec : ChangeSpec := { name := "fnExactGoodQuery", fn := fun _ => fun
  | [d] => { results := [.lit (.bool true)], args := [d] }
  | _ => none }
def fnExactGoodQueryRow : OpenClaim := { program := "ytkdiffpbljohkax", sum := "2ad57d6039b570d9e8ae34e258f4236d96761a57448ba7172cfa90d2a4f2b2cc", func := "loop.example/g00522/laws.FnExactGoodQuery", spec := "fnExactGoodQuery", unfollowed := true, recurses := true, apart := false }
def FnExactGoodQuerySaid : Prop := fnExactGoodQueryRow.holds Try.pinned (OpenSpec.ofChange fnExactGoodQuerySpec)

/-- ITS FALSE NEIGHBOUR: 'it returns false'. Refute it at one input. -/
def fnExactGoodQueryWrong : ChangeSpec := { name := "fnExactGoodQuery", fn := fun _ => fun
  | [d] => { results := [.lit (.bool false)], args := [d] }
  | _ => none }
def FnExactGoodQueryWrongFalsely : Prop := fnExactGoodQueryRow.holds Try.pinned (OpenSpec.ofChange fnExactGoodQueryWrong)

/-- 'laws.FnExactNotQuery': WHATEVER THE INPUT: true; the input reads as it did. -/
def fnExactNotQuerySpec : ChangeSpec := { name := "fnExactNotQuery", fn := fun _ => fun
  | [d] => { results := [.lit (.bool true)], args := [d] }
  | _ => none }
def fnExactNotQueryRow : OpenClaim := { program := "ytkdiffpbljohkax", sum := "2ad57d6039b570d9e8ae34e258f4236d96761a57448ba7172cfa90d2a4f2b2cc", func := "loop.example/g00522/laws.FnExactNotQuery", spec := "fnExactNotQuery", unfollowed := true, recurses := true, apart := false }
def FnExactNotQuerySaid : Prop := fnExactNotQueryRow.holds Try.pinned (OpenSpec.ofChange fnExactNotQuerySpec)

/-- ITS FALSE NEIGHBOUR: 'it returns false'. Refute it at one input. -/
def fnExactNotQueryWrong : ChangeSpec := { name := "fnExactNotQuery", fn := fun _ => fun
  | [d] => { results := [.lit (.bool false)], args := [d] }
  | _ => none }
def FnExactNotQueryWrongFalsely : Prop := fnExactNotQueryRow.holds Try.pinned (OpenSpec.ofChange fnExactNotQueryWrong)

/-- 'laws.FnExactGoodForm': WHATEVER THE INPUT: true; the input reads as it did. -/
def fnExactGoodFormSpec : ChangeSpec := { name := "fnExactGoodForm", fn := fun _ => fun
  | [d] => { results := [.lit (.bool true)], args := [d] }
  | _ => none }
def fnExactGoodFormRow : OpenClaim := { program := "ytkdiffpbljohkax", sum := "2ad57d6039b570d9e8ae34e258f4236d96761a57448ba7172cfa90d2a4f2b2cc", func := "loop.example/g00522/laws.FnExactGoodForm", spec := "fnExactGoodForm", apart := false }
def FnExactGoodFormSaid : Prop := fnExactGoodFormRow.holds Try.pinned (OpenSpec.ofChange fnExactGoodFormSpec)

/-- ITS FALSE NEIGHBOUR: 'it returns false'. Refute it at one input. -/
def fnExactGoodFormWrong : ChangeSpec := { name := "fnExactGoodForm", fn := fun _ => fun
  | [d] => { results := [.lit (.bool false)], args := [d] }
  | _ => none }
def FnExactGoodFormWrongFalsely : Prop := fnExactGoodFormRow.holds Try.pinned (OpenSpec.ofChange fnExactGoodFormWrong)

/-- 'laws.FnExactHasEmpty': WHATEVER THE INPUT: true; the input reads as it did. -/
def fnExactHasEmptySpec : ChangeSpec := { name := "fnExactHasEmpty", fn := fun _ => fun
  | [d] => { results := [.lit (.bool true)], args := [d] }
  | _ => none }
def fnExactHasEmptyRow : OpenClaim := { program := "ytkdiffpbljohkax", sum := "2ad57d6039b570d9e8ae34e258f4236d96761a57448ba7172cfa90d2a4f2b2cc", func := "loop.example/g00522/laws.FnExactHasEmpty", spec := "fnExactHasEmpty", recurses := true, apart := false }
def FnExactHasEmptySaid : Prop := fnExactHasEmptyRow.holds Try.pinned (OpenSpec.ofChange fnExactHasEmptySpec)

/-- ITS FALSE NEIGHBOUR: 'it returns false'. Refute it at one input. -/
def fnExactHasEmptyWrong : ChangeSpec := { name := "fnExactHasEmpty", fn := fun _ => fun
  | [d] => { results := [.lit (.bool false)], args := [d] }
  | _ => none }
def FnExactHasEmptyWrongFalsely : Prop := fnExactHasEmptyRow.holds Try.pinned (OpenSpec.ofChange fnExactHasEmptyWrong)

/- THE SECOND FORM. 'bulk': how many values and letters a reading holds, each counted each time it is reached (what is shared counts as often as it is met; a slice's spare places count too). A statement '..UptoSaid' is the law's where the arguments, and the package variables that the reading takes, are together of bulk at most 1048576: NARROWER than '..Said'. Prove '..Said' where nothing that the law and all that it calls make is longer than what came in: it says more and counts as full. Else prove '..UptoSaid'. A law counts once. -/
mutual
def uptoBulk {H : Type} : DataW H → Nat
  | .lit (.string bytes) => bytes.length + 1
  | .lit _ => 1
  | .nil => 1
  | .ptr d => uptoBulk d + 1
  | .slice elems spare => uptoBulkAll elems + uptoBulkAll spare + 1
  | .agg parts => uptoBulkAll parts + 1
  | .iface _ d => uptoBulk d + 1
  | .map entries => uptoBulkEntries entries + 1
  | .held _ => 1
def uptoBulkAll {H : Type} : List (DataW H) → Nat
  | [] => 0
  | d :: r => uptoBulk d + uptoBulkAll r
def uptoBulkEntries {H : Type} : List (Lit × DataW H) → Nat
  | [] => 0
  | x :: r => uptoBulkEntry x + uptoBulkEntries r
def uptoBulkEntry {H : Type} : Lit × DataW H → Nat
  | (.string bytes, d) => bytes.length + uptoBulk d + 1
  | (_, d) => uptoBulk d + 1
 end
def uptoSmall : (H : Type) → List (DataW H) → Bool := fun _ ds => decide (uptoBulkAll ds ≤ 1048576)
def OpenSpec.upto (s : _root_.Go.ChangeSpec) : _root_.Go.OpenSpec := { _root_.Go.OpenSpec.ofChange s with cond := some uptoSmall }

/-- 'laws.FnExactPostsOf', WHERE WHAT IT READS IS OF BULK AT MOST 1048576: true; the input reads as it did. -/
def fnExactPostsOfUptoRow : OpenClaim := { program := "ytkdiffpbljohkax", sum := "2ad57d6039b570d9e8ae34e258f4236d96761a57448ba7172cfa90d2a4f2b2cc", func := "loop.example/g00522/laws.FnExactPostsOf", spec := "fnExactPostsOf", unfollowed := true, recurses := true, apart := false, narrowed := true }
def FnExactPostsOfUptoSaid : Prop := fnExactPostsOfUptoRow.holds Try.pinned (OpenSpec.upto fnExactPostsOfSpec)

/-- 'laws.FnExactEvalQuery', WHERE WHAT IT READS IS OF BULK AT MOST 1048576: true; the input reads as it did. -/
def fnExactEvalQueryUptoRow : OpenClaim := { program := "ytkdiffpbljohkax", sum := "2ad57d6039b570d9e8ae34e258f4236d96761a57448ba7172cfa90d2a4f2b2cc", func := "loop.example/g00522/laws.FnExactEvalQuery", spec := "fnExactEvalQuery", unfollowed := true, recurses := true, apart := false, narrowed := true }
def FnExactEvalQueryUptoSaid : Prop := fnExactEvalQueryUptoRow.holds Try.pinned (OpenSpec.upto fnExactEvalQuerySpec)

/-- 'laws.FnExactGoodQuery', WHERE WHAT IT READS IS OF BULK AT MOST 1048576: true; the input reads as it did. -/
def fnExactGoodQueryUptoRow : OpenClaim := { program := "ytkdiffpbljohkax", sum := "2ad57d6039b570d9e8ae34e258f4236d96761a57448ba7172cfa90d2a4f2b2cc", func := "loop.example/g00522/laws.FnExactGoodQuery", spec := "fnExactGoodQuery", unfollowed := true, recurses := true, apart := false, narrowed := true }
def FnExactGoodQueryUptoSaid : Prop := fnExactGoodQueryUptoRow.holds Try.pinned (OpenSpec.upto fnExactGoodQuerySpec)

/-- 'laws.FnExactNotQuery', WHERE WHAT IT READS IS OF BULK AT MOST 1048576: true; the input reads as it did. -/
def fnExactNotQueryUptoRow : OpenClaim := { program := "ytkdiffpbljohkax", sum := "2ad57d6039b570d9e8ae34e258f4236d96761a57448ba7172cfa90d2a4f2b2cc", func := "loop.example/g00522/laws.FnExactNotQuery", spec := "fnExactNotQuery", unfollowed := true, recurses := true, apart := false, narrowed := true }
def FnExactNotQueryUptoSaid : Prop := fnExactNotQueryUptoRow.holds Try.pinned (OpenSpec.upto fnExactNotQuerySpec)

/-- 'laws.FnExactGoodForm', WHERE WHAT IT READS IS OF BULK AT MOST 1048576: true; the input reads as it did. -/
def fnExactGoodFormUptoRow : OpenClaim := { program := "ytkdiffpbljohkax", sum := "2ad57d6039b570d9e8ae34e258f4236d96761a57448ba7172cfa90d2a4f2b2cc", func := "loop.example/g00522/laws.FnExactGoodForm", spec := "fnExactGoodForm", apart := false, narrowed := true }
def FnExactGoodFormUptoSaid : Prop := fnExactGoodFormUptoRow.holds Try.pinned (OpenSpec.upto fnExactGoodFormSpec)

/-- 'laws.FnExactHasEmpty', WHERE WHAT IT READS IS OF BULK AT MOST 1048576: true; the input reads as it did. -/
def fnExactHasEmptyUptoRow : OpenClaim := { program := "ytkdiffpbljohkax", sum := "2ad57d6039b570d9e8ae34e258f4236d96761a57448ba7172cfa90d2a4f2b2cc", func := "loop.example/g00522/laws.FnExactHasEmpty", spec := "fnExactHasEmpty", recurses := true, apart := false, narrowed := true }
def FnExactHasEmptyUptoSaid : Prop := fnExactHasEmptyUptoRow.holds Try.pinned (OpenSpec.upto fnExactHasEmptySpec)

end Rows
end Go.Proofs.Ytkdiffpbljohkax
