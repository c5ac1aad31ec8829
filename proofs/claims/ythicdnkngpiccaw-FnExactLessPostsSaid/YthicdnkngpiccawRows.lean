/-
  No cell of these rows narrows 'for every input' (looked for: loops, veiled, ifaces, maps, wideKeys, modest, calm, conditions, laid).
  DERIVED. THE GIVEN ROWS OF THIS SEAT. 6 by the template 'for every input the law returns true; each argument reads behind the call as it read before'; 0 by the template 'total and deterministic' (their statements: YthicdnkngpiccawTotals.lean).
  GIVEN WITH THE SEED: the statements are not yours to turn. If you find one false, say at which input.
  Laid BY PROGRAM, IN A SANDBOX (cutbox-rows.mjs): the forced cells as the released guide's own fill.sh prints them over the translation 4afcb286918f4e54… (all of the seat's roots in one cut). By AI agents, Wed Nov 11 2026. No macro, syntax, notation, axiom, sorry.
-/
import Derived.Test.YthicdnkngpiccawChecked
import GoSem.Claim
import GoSem.ClaimJoined
import GoSem.ClaimMapViews
import Derived.JoinedTies
import Derived.KernelRfl
namespace Go.Proofs.Ythicdnkngpiccaw
/- THE CELL 'sum', in the pinned program and in every row, IS THE sha256 OF THE DUMP (.gsa) THAT YthicdnkngpiccawProg.lean LOADS. Nothing in Lean hashes anything: it is a label: what it is worth is what the hold of that sum in a sandbox is worth. -/
noncomputable def Try.pinned : Pinned := { name := "ythicdnkngpiccaw", sum := "4afcb286918f4e54620972a78a70afc4fe6e256519a154c8b878e02b91e65615", checked := Try.checked }
namespace Rows
def none {H : Type} : Left H := { results := [], args := [] }

/-- 'laws.FnExactMergeLabels': WHATEVER THE INPUT: true; the input reads as it did. -/
def fnExactMergeLabelsSpec : ChangeSpec := { name := "fnExactMergeLabels", fn := fun _ => fun
  | [d1, d2] => { results := [.lit (.bool true)], args := [d1, d2] }
  | _ => none }
def fnExactMergeLabelsRow : OpenClaim := { program := "ythicdnkngpiccaw", sum := "4afcb286918f4e54620972a78a70afc4fe6e256519a154c8b878e02b91e65615", func := "loop.example/g00522/laws.FnExactMergeLabels", spec := "fnExactMergeLabels", inPlace := ["internal/bytealg.abigen_runtime_cmpstring"], unfollowed := true, recurses := true, apart := false }
def FnExactMergeLabelsSaid : Prop := fnExactMergeLabelsRow.holds Try.pinned (OpenSpec.ofChange fnExactMergeLabelsSpec)

/-- ITS FALSE NEIGHBOUR: 'it returns false'. Refute it at one input. -/
def fnExactMergeLabelsWrong : ChangeSpec := { name := "fnExactMergeLabels", fn := fun _ => fun
  | [d1, d2] => { results := [.lit (.bool false)], args := [d1, d2] }
  | _ => none }
def FnExactMergeLabelsWrongFalsely : Prop := fnExactMergeLabelsRow.holds Try.pinned (OpenSpec.ofChange fnExactMergeLabelsWrong)

/-- 'laws.FnExactGoodPosts': WHATEVER THE INPUT: true; the input reads as it did. -/
def fnExactGoodPostsSpec : ChangeSpec := { name := "fnExactGoodPosts", fn := fun _ => fun
  | [d] => { results := [.lit (.bool true)], args := [d] }
  | _ => none }
def fnExactGoodPostsRow : OpenClaim := { program := "ythicdnkngpiccaw", sum := "4afcb286918f4e54620972a78a70afc4fe6e256519a154c8b878e02b91e65615", func := "loop.example/g00522/laws.FnExactGoodPosts", spec := "fnExactGoodPosts", apart := false }
def FnExactGoodPostsSaid : Prop := fnExactGoodPostsRow.holds Try.pinned (OpenSpec.ofChange fnExactGoodPostsSpec)

/-- ITS FALSE NEIGHBOUR: 'it returns false'. Refute it at one input. -/
def fnExactGoodPostsWrong : ChangeSpec := { name := "fnExactGoodPosts", fn := fun _ => fun
  | [d] => { results := [.lit (.bool false)], args := [d] }
  | _ => none }
def FnExactGoodPostsWrongFalsely : Prop := fnExactGoodPostsRow.holds Try.pinned (OpenSpec.ofChange fnExactGoodPostsWrong)

/-- 'laws.FnExactMeetPosts': WHATEVER THE INPUT: true; the input reads as it did. -/
def fnExactMeetPostsSpec : ChangeSpec := { name := "fnExactMeetPosts", fn := fun _ => fun
  | [d1, d2] => { results := [.lit (.bool true)], args := [d1, d2] }
  | _ => none }
def fnExactMeetPostsRow : OpenClaim := { program := "ythicdnkngpiccaw", sum := "4afcb286918f4e54620972a78a70afc4fe6e256519a154c8b878e02b91e65615", func := "loop.example/g00522/laws.FnExactMeetPosts", spec := "fnExactMeetPosts", apart := false }
def FnExactMeetPostsSaid : Prop := fnExactMeetPostsRow.holds Try.pinned (OpenSpec.ofChange fnExactMeetPostsSpec)

/-- ITS FALSE NEIGHBOUR: 'it returns false'. Refute it at one input. -/
def fnExactMeetPostsWrong : ChangeSpec := { name := "fnExactMeetPosts", fn := fun _ => fun
  | [d1, d2] => { results := [.lit (.bool false)], args := [d1, d2] }
  | _ => none }
def FnExactMeetPostsWrongFalsely : Prop := fnExactMeetPostsRow.holds Try.pinned (OpenSpec.ofChange fnExactMeetPostsWrong)

/-- 'laws.FnExactJoinPosts': WHATEVER THE INPUT: true; the input reads as it did. -/
def fnExactJoinPostsSpec : ChangeSpec := { name := "fnExactJoinPosts", fn := fun _ => fun
  | [d1, d2] => { results := [.lit (.bool true)], args := [d1, d2] }
  | _ => none }
def fnExactJoinPostsRow : OpenClaim := { program := "ythicdnkngpiccaw", sum := "4afcb286918f4e54620972a78a70afc4fe6e256519a154c8b878e02b91e65615", func := "loop.example/g00522/laws.FnExactJoinPosts", spec := "fnExactJoinPosts", apart := false }
def FnExactJoinPostsSaid : Prop := fnExactJoinPostsRow.holds Try.pinned (OpenSpec.ofChange fnExactJoinPostsSpec)

/-- ITS FALSE NEIGHBOUR: 'it returns false'. Refute it at one input. -/
def fnExactJoinPostsWrong : ChangeSpec := { name := "fnExactJoinPosts", fn := fun _ => fun
  | [d1, d2] => { results := [.lit (.bool false)], args := [d1, d2] }
  | _ => none }
def FnExactJoinPostsWrongFalsely : Prop := fnExactJoinPostsRow.holds Try.pinned (OpenSpec.ofChange fnExactJoinPostsWrong)

/-- 'laws.FnExactLessPosts': WHATEVER THE INPUT: true; the input reads as it did. -/
def fnExactLessPostsSpec : ChangeSpec := { name := "fnExactLessPosts", fn := fun _ => fun
  | [d1, d2] => { results := [.lit (.bool true)], args := [d1, d2] }
  | _ => none }
def fnExactLessPostsRow : OpenClaim := { program := "ythicdnkngpiccaw", sum := "4afcb286918f4e54620972a78a70afc4fe6e256519a154c8b878e02b91e65615", func := "loop.example/g00522/laws.FnExactLessPosts", spec := "fnExactLessPosts", apart := false }
def FnExactLessPostsSaid : Prop := fnExactLessPostsRow.holds Try.pinned (OpenSpec.ofChange fnExactLessPostsSpec)

/-- ITS FALSE NEIGHBOUR: 'it returns false'. Refute it at one input. -/
def fnExactLessPostsWrong : ChangeSpec := { name := "fnExactLessPosts", fn := fun _ => fun
  | [d1, d2] => { results := [.lit (.bool false)], args := [d1, d2] }
  | _ => none }
def FnExactLessPostsWrongFalsely : Prop := fnExactLessPostsRow.holds Try.pinned (OpenSpec.ofChange fnExactLessPostsWrong)

/-- 'laws.FnExactLeapFrom': WHATEVER THE INPUT: true; the input reads as it did. -/
def fnExactLeapFromSpec : ChangeSpec := { name := "fnExactLeapFrom", fn := fun _ => fun
  | [d1, d2, d3] => { results := [.lit (.bool true)], args := [d1, d2, d3] }
  | _ => none }
def fnExactLeapFromRow : OpenClaim := { program := "ythicdnkngpiccaw", sum := "4afcb286918f4e54620972a78a70afc4fe6e256519a154c8b878e02b91e65615", func := "loop.example/g00522/laws.FnExactLeapFrom", spec := "fnExactLeapFrom", apart := false }
def FnExactLeapFromSaid : Prop := fnExactLeapFromRow.holds Try.pinned (OpenSpec.ofChange fnExactLeapFromSpec)

/-- ITS FALSE NEIGHBOUR: 'it returns false'. Refute it at one input. -/
def fnExactLeapFromWrong : ChangeSpec := { name := "fnExactLeapFrom", fn := fun _ => fun
  | [d1, d2, d3] => { results := [.lit (.bool false)], args := [d1, d2, d3] }
  | _ => none }
def FnExactLeapFromWrongFalsely : Prop := fnExactLeapFromRow.holds Try.pinned (OpenSpec.ofChange fnExactLeapFromWrong)

/- THE SECOND FORM. 'bulk': how many values and letters a reading holds, each counted each time it is reached (what is shared counts as often as it is met; a slice's spare places count too). A statement '..UptoSaid' is the law's where the arguments, and the package variables that the reading takes, are together of bulk at most 1048576: NARROWER than '..Said'. Prove '..Said' where nothing that the law and all that it calls make is longer than what came in: it says more and counts as full. Else prove '..UptoSaid'. A law counts once. -/
mutual
def uptoBulk {H : Type} : DataW H → Nat
  | .lit (.string bytes) => bytes.length + 1
  | .lit _ => 1
  | .nil => 1
  | .ptr d => uptoBulk d + 1
  | .slice elems spare => uptoBulkAll elems + uptoBulkAll spare + 1
  | .agg parts => uptoBulkAll parts + 1
  | .iface _ d => uptoBulk d + 1
  | .map entries => uptoBulkEntries entries + 1
  | .held _ => 1
def uptoBulkAll {H : Type} : List (DataW H) → Nat
  | [] => 0
  | d :: r => uptoBulk d + uptoBulkAll r
def uptoBulkEntries {H : Type} : List (Lit × DataW H) → Nat
  | [] => 0
  | x :: r => uptoBulkEntry x + uptoBulkEntries r
def uptoBulkEntry {H : Type} : Lit × DataW H → Nat
  | (.string bytes, d) => bytes.length + uptoBulk d + 1
  | (_, d) => uptoBulk d + 1
 end
def uptoSmall : (H : Type) → List (DataW H) → Bool := fun _ ds => decide (uptoBulkAll ds ≤ 1048576)
def OpenSpec.upto (s : _root_.Go.ChangeSpec) : _root_.Go.OpenSpec := { _root_.Go.OpenSpec.ofChange s with cond := some uptoSmall }

/-- 'laws.FnExactMergeLabels', WHERE WHAT IT READS IS OF BULK AT MOST 1048576: true; the input reads as it did. -/
def fnExactMergeLabelsUptoRow : OpenClaim := { program := "ythicdnkngpiccaw", sum := "4afcb286918f4e54620972a78a70afc4fe6e256519a154c8b878e02b91e65615", func := "loop.example/g00522/laws.FnExactMergeLabels", spec := "fnExactMergeLabels", inPlace := ["internal/bytealg.abigen_runtime_cmpstring"], unfollowed := true, recurses := true, apart := false, narrowed := true }
def FnExactMergeLabelsUptoSaid : Prop := fnExactMergeLabelsUptoRow.holds Try.pinned (OpenSpec.upto fnExactMergeLabelsSpec)

/-- 'laws.FnExactGoodPosts', WHERE WHAT IT READS IS OF BULK AT MOST 1048576: true; the input reads as it did. -/
def fnExactGoodPostsUptoRow : OpenClaim := { program := "ythicdnkngpiccaw", sum := "4afcb286918f4e54620972a78a70afc4fe6e256519a154c8b878e02b91e65615", func := "loop.example/g00522/laws.FnExactGoodPosts", spec := "fnExactGoodPosts", apart := false, narrowed := true }
def FnExactGoodPostsUptoSaid : Prop := fnExactGoodPostsUptoRow.holds Try.pinned (OpenSpec.upto fnExactGoodPostsSpec)

/-- 'laws.FnExactMeetPosts', WHERE WHAT IT READS IS OF BULK AT MOST 1048576: true; the input reads as it did. -/
def fnExactMeetPostsUptoRow : OpenClaim := { program := "ythicdnkngpiccaw", sum := "4afcb286918f4e54620972a78a70afc4fe6e256519a154c8b878e02b91e65615", func := "loop.example/g00522/laws.FnExactMeetPosts", spec := "fnExactMeetPosts", apart := false, narrowed := true }
def FnExactMeetPostsUptoSaid : Prop := fnExactMeetPostsUptoRow.holds Try.pinned (OpenSpec.upto fnExactMeetPostsSpec)

/-- 'laws.FnExactJoinPosts', WHERE WHAT IT READS IS OF BULK AT MOST 1048576: true; the input reads as it did. -/
def fnExactJoinPostsUptoRow : OpenClaim := { program := "ythicdnkngpiccaw", sum := "4afcb286918f4e54620972a78a70afc4fe6e256519a154c8b878e02b91e65615", func := "loop.example/g00522/laws.FnExactJoinPosts", spec := "fnExactJoinPosts", apart := false, narrowed := true }
def FnExactJoinPostsUptoSaid : Prop := fnExactJoinPostsUptoRow.holds Try.pinned (OpenSpec.upto fnExactJoinPostsSpec)

/-- 'laws.FnExactLessPosts', WHERE WHAT IT READS IS OF BULK AT MOST 1048576: true; the input reads as it did. -/
def fnExactLessPostsUptoRow : OpenClaim := { program := "ythicdnkngpiccaw", sum := "4afcb286918f4e54620972a78a70afc4fe6e256519a154c8b878e02b91e65615", func := "loop.example/g00522/laws.FnExactLessPosts", spec := "fnExactLessPosts", apart := false, narrowed := true }
def FnExactLessPostsUptoSaid : Prop := fnExactLessPostsUptoRow.holds Try.pinned (OpenSpec.upto fnExactLessPostsSpec)

/-- 'laws.FnExactLeapFrom', WHERE WHAT IT READS IS OF BULK AT MOST 1048576: true; the input reads as it did. -/
def fnExactLeapFromUptoRow : OpenClaim := { program := "ythicdnkngpiccaw", sum := "4afcb286918f4e54620972a78a70afc4fe6e256519a154c8b878e02b91e65615", func := "loop.example/g00522/laws.FnExactLeapFrom", spec := "fnExactLeapFrom", apart := false, narrowed := true }
def FnExactLeapFromUptoSaid : Prop := fnExactLeapFromUptoRow.holds Try.pinned (OpenSpec.upto fnExactLeapFromSpec)

end Rows
end Go.Proofs.Ythicdnkngpiccaw
