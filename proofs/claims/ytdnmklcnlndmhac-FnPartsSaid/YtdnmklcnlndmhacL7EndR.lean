/-
  What EndOfEpoch answers.
-/
import Derived.Test.YtdnmklcnlndmhacL7Math
namespace Go.Proofs.Ytdnmklcnlndmhac.L7
open Go.RowKit L1
set_option linter.unusedVariables false

open Classical in
/-- What EndOfEpoch answers. -/
noncomputable def endR (l : List En) (ep : Int) : Int × Bool := if GoodE l ∧ 0 ≤ ep ∧ ep ≤ 1000 then ((endE l ep : Int), true) else (0, false)
end Go.Proofs.Ytdnmklcnlndmhac.L7
