/-
  What PartAt answers.
-/
import Derived.Test.YtdnmklcnlndmhbbL7Math
namespace Go.Proofs.Ytdnmklcnlndmhbb.L7
open Go.RowKit L1
set_option linter.unusedVariables false

open Classical in
/-- What PartAt answers. -/
noncomputable def prtR (l m : List En) : Int × Bool := if GoodE l ∧ GoodE m then ((prt l m : Int), true) else (0, false)
end Go.Proofs.Ytdnmklcnlndmhbb.L7
