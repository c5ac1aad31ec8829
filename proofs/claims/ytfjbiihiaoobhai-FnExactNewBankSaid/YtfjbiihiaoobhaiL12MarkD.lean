/-
  What a marked bank holds.
-/
import Derived.Test.YtfjbiihiaoobhaiL12MarkM
import Derived.Deep.DeepCutAuto
namespace Go.Proofs.Ytfjbiihiaoobhai.L12
open Go.RowKit L1 L4 L9 Own Sli
set_option linter.unusedVariables false

/-- A marked bank, and the number behind. -/
abbrev mkd (m : Bk) (nC nW nK nH nF : Nat) : Bk := ⟨mkC 1 nC, mkUp mkC (1 + (nC : Int)) m.W nW, mkC (1 + (nC : Int) + (pre m.W nW : Int)) nK, mkUp mkB (1 + (nC : Int) + (pre m.W nW : Int) + (nK : Int)) m.H nH, mkUp mkC (1 + (nC : Int) + (pre m.W nW : Int) + (nK : Int) + (pre m.H nH : Int)) m.F nF⟩
abbrev mkt (m : Bk) (nC nW nK nH nF : Nat) : Int := 1 + (nC : Int) + (pre m.W nW : Int) + (nK : Int) + (pre m.H nH : Int) + (pre m.F nF : Int)
end Go.Proofs.Ytfjbiihiaoobhai.L12
