/-
  What FindPart answers.
-/
import Derived.Test.YtdnmklcnlndmhbbL7FndA0
import Derived.Test.YtdnmklcnlndmhbbL7GSMath
namespace Go.Proofs.Ytdnmklcnlndmhbb.L7
open Go.RowKit L1
set_option linter.unusedVariables false

open Classical in
/-- What FindPart answers. -/
noncomputable def fndR (l : List En) (st : List (Int × Int)) (en : Int) : Int × Int × Bool := if GoodE l ∧ GoodS st en then ((find l st en).1, (find l st en).2, true) else (0, 0, false)
end Go.Proofs.Ytdnmklcnlndmhbb.L7
