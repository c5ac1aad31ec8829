/-
  No cell of these rows narrows 'for every input' (looked for: loops, veiled, ifaces, maps, wideKeys, modest, calm, conditions, laid).
  DERIVED. THE GIVEN ROWS OF THIS SEAT. 6 by the template 'for every input the law returns true; each argument reads behind the call as it read before'; 0 by the template 'total and deterministic' (their statements: YtkdiffpbljohkayTotals.lean).
  GIVEN WITH THE SEED: the statements are not yours to turn. If you find one false, say at which input.
  Laid BY PROGRAM, IN A SANDBOX (cutbox-rows.mjs): the forced cells as the released guide's own fill.sh prints them over the translation 89d944b3d48252e7… (all of the seat's roots in one cut). By AI agents, Wed Nov 11 2026. No macro, syntax, notation, axiom, sorry.
-/
import Derived.Test.YtkdiffpbljohkayChecked
import GoSem.Claim
import GoSem.ClaimJoined
import GoSem.ClaimMapViews
import Derived.JoinedTies
import Derived.KernelRfl
namespace Go.Proofs.Ytkdiffpbljohkay
/- THE CELL 'sum', in the pinned program and in every row, IS THE sha256 OF THE DUMP (.gsa) THAT YtkdiffpbljohkayProg.lean LOADS. Nothing in Lean hashes anything: it is a label: what it is worth is what the hold of that sum in a sandbox is worth. -/
noncomputable def Try.pinned : Pinned := { name := "ytkdiffpbljohkay", sum := "89d944b3d48252e73e65b092a77ff6a8ca7d2b0cea1cf53e863547026ff811cf", checked := Try.checked }
namespace Rows
def none {H : Type} : Left H := { results := [], args := [] }

/-- 'laws.FnExactLeftOf': WHATEVER THE INPUT: true; the input reads as it did. -/
def fnExactLeftOfSpec : ChangeSpec := { name := "fnExactLeftOf", fn := fun _ => fun
  | [d1, d2] => { results := [.lit (.bool true)], args := [d1, d2] }
  | _ => none }
def fnExactLeftOfRow : OpenClaim := { program := "ytkdiffpbljohkay", sum := "89d944b3d48252e73e65b092a77ff6a8ca7d2b0cea1cf53e863547026ff811cf", func := "loop.example/g00522/laws.FnExactLeftOf", spec := "fnExactLeftOf", unfollowed := true, recurses := true, apart := false }
def FnExactLeftOfSaid : Prop := fnExactLeftOfRow.holds Try.pinned (OpenSpec.ofChange fnExactLeftOfSpec)

/-- ITS FALSE NEIGHBOUR: 'it returns false'. Refute it at one input. -/
def fnExactLeftOfWrong : ChangeSpec := { name := "fnExactLeftOf", fn := fun _ => fun
  | [d1, d2] => { results := [.lit (.bool false)], args := [d1, d2] }
  | _ => none }
def FnExactLeftOfWrongFalsely : Prop := fnExactLeftOfRow.holds Try.pinned (OpenSpec.ofChange fnExactLeftOfWrong)

/-- 'laws.FnExactFitsForm': WHATEVER THE INPUT: true; the input reads as it did. -/
def fnExactFitsFormSpec : ChangeSpec := { name := "fnExactFitsForm", fn := fun _ => fun
  | [d1, d2] => { results := [.lit (.bool true)], args := [d1, d2] }
  | _ => none }
def fnExactFitsFormRow : OpenClaim := { program := "ytkdiffpbljohkay", sum := "89d944b3d48252e73e65b092a77ff6a8ca7d2b0cea1cf53e863547026ff811cf", func := "loop.example/g00522/laws.FnExactFitsForm", spec := "fnExactFitsForm", recurses := true, apart := false }
def FnExactFitsFormSaid : Prop := fnExactFitsFormRow.holds Try.pinned (OpenSpec.ofChange fnExactFitsFormSpec)

/-- ITS FALSE NEIGHBOUR: 'it returns false'. Refute it at one input. -/
def fnExactFitsFormWrong : ChangeSpec := { name := "fnExactFitsForm", fn := fun _ => fun
  | [d1, d2] => { results := [.lit (.bool false)], args := [d1, d2] }
  | _ => none }
def FnExactFitsFormWrongFalsely : Prop := fnExactFitsFormRow.holds Try.pinned (OpenSpec.ofChange fnExactFitsFormWrong)

/-- 'laws.FnExactWordsOf': WHATEVER THE INPUT: true; the input reads as it did. -/
def fnExactWordsOfSpec : ChangeSpec := { name := "fnExactWordsOf", fn := fun _ => fun
  | [d1, d2] => { results := [.lit (.bool true)], args := [d1, d2] }
  | _ => none }
def fnExactWordsOfRow : OpenClaim := { program := "ytkdiffpbljohkay", sum := "89d944b3d48252e73e65b092a77ff6a8ca7d2b0cea1cf53e863547026ff811cf", func := "loop.example/g00522/laws.FnExactWordsOf", spec := "fnExactWordsOf", recurses := true, apart := false }
def FnExactWordsOfSaid : Prop := fnExactWordsOfRow.holds Try.pinned (OpenSpec.ofChange fnExactWordsOfSpec)

/-- ITS FALSE NEIGHBOUR: 'it returns false'. Refute it at one input. -/
def fnExactWordsOfWrong : ChangeSpec := { name := "fnExactWordsOf", fn := fun _ => fun
  | [d1, d2] => { results := [.lit (.bool false)], args := [d1, d2] }
  | _ => none }
def FnExactWordsOfWrongFalsely : Prop := fnExactWordsOfRow.holds Try.pinned (OpenSpec.ofChange fnExactWordsOfWrong)

/-- 'laws.FnExactReadForm': WHATEVER THE INPUT: true; the input reads as it did. -/
def fnExactReadFormSpec : ChangeSpec := { name := "fnExactReadForm", fn := fun _ => fun
  | [d] => { results := [.lit (.bool true)], args := [d] }
  | _ => none }
def fnExactReadFormRow : OpenClaim := { program := "ytkdiffpbljohkay", sum := "89d944b3d48252e73e65b092a77ff6a8ca7d2b0cea1cf53e863547026ff811cf", func := "loop.example/g00522/laws.FnExactReadForm", spec := "fnExactReadForm", unfollowed := true, recurses := true, apart := false }
def FnExactReadFormSaid : Prop := fnExactReadFormRow.holds Try.pinned (OpenSpec.ofChange fnExactReadFormSpec)

/-- ITS FALSE NEIGHBOUR: 'it returns false'. Refute it at one input. -/
def fnExactReadFormWrong : ChangeSpec := { name := "fnExactReadForm", fn := fun _ => fun
  | [d] => { results := [.lit (.bool false)], args := [d] }
  | _ => none }
def FnExactReadFormWrongFalsely : Prop := fnExactReadFormRow.holds Try.pinned (OpenSpec.ofChange fnExactReadFormWrong)

/-- 'laws.FnExactFormText': WHATEVER THE INPUT: true; the input reads as it did. -/
def fnExactFormTextSpec : ChangeSpec := { name := "fnExactFormText", fn := fun _ => fun
  | [d] => { results := [.lit (.bool true)], args := [d] }
  | _ => none }
def fnExactFormTextRow : OpenClaim := { program := "ytkdiffpbljohkay", sum := "89d944b3d48252e73e65b092a77ff6a8ca7d2b0cea1cf53e863547026ff811cf", func := "loop.example/g00522/laws.FnExactFormText", spec := "fnExactFormText", recurses := true, apart := false }
def FnExactFormTextSaid : Prop := fnExactFormTextRow.holds Try.pinned (OpenSpec.ofChange fnExactFormTextSpec)

/-- ITS FALSE NEIGHBOUR: 'it returns false'. Refute it at one input. -/
def fnExactFormTextWrong : ChangeSpec := { name := "fnExactFormText", fn := fun _ => fun
  | [d] => { results := [.lit (.bool false)], args := [d] }
  | _ => none }
def FnExactFormTextWrongFalsely : Prop := fnExactFormTextRow.holds Try.pinned (OpenSpec.ofChange fnExactFormTextWrong)

/-- 'laws.FnExactNotForm': WHATEVER THE INPUT: true; the input reads as it did. -/
def fnExactNotFormSpec : ChangeSpec := { name := "fnExactNotForm", fn := fun _ => fun
  | [d] => { results := [.lit (.bool true)], args := [d] }
  | _ => none }
def fnExactNotFormRow : OpenClaim := { program := "ytkdiffpbljohkay", sum := "89d944b3d48252e73e65b092a77ff6a8ca7d2b0cea1cf53e863547026ff811cf", func := "loop.example/g00522/laws.FnExactNotForm", spec := "fnExactNotForm", apart := false }
def FnExactNotFormSaid : Prop := fnExactNotFormRow.holds Try.pinned (OpenSpec.ofChange fnExactNotFormSpec)

/-- ITS FALSE NEIGHBOUR: 'it returns false'. Refute it at one input. -/
def fnExactNotFormWrong : ChangeSpec := { name := "fnExactNotForm", fn := fun _ => fun
  | [d] => { results := [.lit (.bool false)], args := [d] }
  | _ => none }
def FnExactNotFormWrongFalsely : Prop := fnExactNotFormRow.holds Try.pinned (OpenSpec.ofChange fnExactNotFormWrong)

/- THE SECOND FORM. 'bulk': how many values and letters a reading holds, each counted each time it is reached (what is shared counts as often as it is met; a slice's spare places count too). A statement '..UptoSaid' is the law's where the arguments, and the package variables that the reading takes, are together of bulk at most 1048576: NARROWER than '..Said'. Prove '..Said' where nothing that the law and all that it calls make is longer than what came in: it says more and counts as full. Else prove '..UptoSaid'. A law counts once. -/
mutual
def uptoBulk {H : Type} : DataW H → Nat
  | .lit (.string bytes) => bytes.length + 1
  | .lit _ => 1
  | .nil => 1
  | .ptr d => uptoBulk d + 1
  | .slice elems spare => uptoBulkAll elems + uptoBulkAll spare + 1
  | .agg parts => uptoBulkAll parts + 1
  | .iface _ d => uptoBulk d + 1
  | .map entries => uptoBulkEntries entries + 1
  | .held _ => 1
def uptoBulkAll {H : Type} : List (DataW H) → Nat
  | [] => 0
  | d :: r => uptoBulk d + uptoBulkAll r
def uptoBulkEntries {H : Type} : List (Lit × DataW H) → Nat
  | [] => 0
  | x :: r => uptoBulkEntry x + uptoBulkEntries r
def uptoBulkEntry {H : Type} : Lit × DataW H → Nat
  | (.string bytes, d) => bytes.length + uptoBulk d + 1
  | (_, d) => uptoBulk d + 1
 end
def uptoSmall : (H : Type) → List (DataW H) → Bool := fun _ ds => decide (uptoBulkAll ds ≤ 1048576)
def OpenSpec.upto (s : _root_.Go.ChangeSpec) : _root_.Go.OpenSpec := { _root_.Go.OpenSpec.ofChange s with cond := some uptoSmall }

/-- 'laws.FnExactLeftOf', WHERE WHAT IT READS IS OF BULK AT MOST 1048576: true; the input reads as it did. -/
def fnExactLeftOfUptoRow : OpenClaim := { program := "ytkdiffpbljohkay", sum := "89d944b3d48252e73e65b092a77ff6a8ca7d2b0cea1cf53e863547026ff811cf", func := "loop.example/g00522/laws.FnExactLeftOf", spec := "fnExactLeftOf", unfollowed := true, recurses := true, apart := false, narrowed := true }
def FnExactLeftOfUptoSaid : Prop := fnExactLeftOfUptoRow.holds Try.pinned (OpenSpec.upto fnExactLeftOfSpec)

/-- 'laws.FnExactFitsForm', WHERE WHAT IT READS IS OF BULK AT MOST 1048576: true; the input reads as it did. -/
def fnExactFitsFormUptoRow : OpenClaim := { program := "ytkdiffpbljohkay", sum := "89d944b3d48252e73e65b092a77ff6a8ca7d2b0cea1cf53e863547026ff811cf", func := "loop.example/g00522/laws.FnExactFitsForm", spec := "fnExactFitsForm", recurses := true, apart := false, narrowed := true }
def FnExactFitsFormUptoSaid : Prop := fnExactFitsFormUptoRow.holds Try.pinned (OpenSpec.upto fnExactFitsFormSpec)

/-- 'laws.FnExactWordsOf', WHERE WHAT IT READS IS OF BULK AT MOST 1048576: true; the input reads as it did. -/
def fnExactWordsOfUptoRow : OpenClaim := { program := "ytkdiffpbljohkay", sum := "89d944b3d48252e73e65b092a77ff6a8ca7d2b0cea1cf53e863547026ff811cf", func := "loop.example/g00522/laws.FnExactWordsOf", spec := "fnExactWordsOf", recurses := true, apart := false, narrowed := true }
def FnExactWordsOfUptoSaid : Prop := fnExactWordsOfUptoRow.holds Try.pinned (OpenSpec.upto fnExactWordsOfSpec)

/-- 'laws.FnExactReadForm', WHERE WHAT IT READS IS OF BULK AT MOST 1048576: true; the input reads as it did. -/
def fnExactReadFormUptoRow : OpenClaim := { program := "ytkdiffpbljohkay", sum := "89d944b3d48252e73e65b092a77ff6a8ca7d2b0cea1cf53e863547026ff811cf", func := "loop.example/g00522/laws.FnExactReadForm", spec := "fnExactReadForm", unfollowed := true, recurses := true, apart := false, narrowed := true }
def FnExactReadFormUptoSaid : Prop := fnExactReadFormUptoRow.holds Try.pinned (OpenSpec.upto fnExactReadFormSpec)

/-- 'laws.FnExactFormText', WHERE WHAT IT READS IS OF BULK AT MOST 1048576: true; the input reads as it did. -/
def fnExactFormTextUptoRow : OpenClaim := { program := "ytkdiffpbljohkay", sum := "89d944b3d48252e73e65b092a77ff6a8ca7d2b0cea1cf53e863547026ff811cf", func := "loop.example/g00522/laws.FnExactFormText", spec := "fnExactFormText", recurses := true, apart := false, narrowed := true }
def FnExactFormTextUptoSaid : Prop := fnExactFormTextUptoRow.holds Try.pinned (OpenSpec.upto fnExactFormTextSpec)

/-- 'laws.FnExactNotForm', WHERE WHAT IT READS IS OF BULK AT MOST 1048576: true; the input reads as it did. -/
def fnExactNotFormUptoRow : OpenClaim := { program := "ytkdiffpbljohkay", sum := "89d944b3d48252e73e65b092a77ff6a8ca7d2b0cea1cf53e863547026ff811cf", func := "loop.example/g00522/laws.FnExactNotForm", spec := "fnExactNotForm", apart := false, narrowed := true }
def FnExactNotFormUptoSaid : Prop := fnExactNotFormUptoRow.holds Try.pinned (OpenSpec.upto fnExactNotFormSpec)

end Rows
end Go.Proofs.Ytkdiffpbljohkay
