/-
  A row of samples that is owned lies in memory.
-/
import Derived.Test.YticgejaaoamhmapL2Flat
namespace Go.Proofs.Yticgejaaoamhmap.L1
open Go.RowKit
set_option linter.unusedVariables false

theorem own_sl2 {w : World} {base n cap : Nat} {a : Option Addr} {l : List (Int × Int)} (h : w.ownsRow base 42 2 (.slice a n cap) n (flat l)) : Sl2 w a l := by
  obtain ⟨b, q, e, s, _⟩ := own_form2 h
  cases e
  exact s
end Go.Proofs.Yticgejaaoamhmap.L1
