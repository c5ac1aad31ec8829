/-
  Totals that are owned lie in memory. Nothing of the program's text is proved here.
-/
import Derived.Test.YtohcjafklfemfamL14TMem
namespace Go.Proofs.Ytohcjafklfemfam.L14T
open Go.RowKit L1 L3
set_option linter.unusedVariables false

theorem OwR_sl {w : World} {base n cap : Nat} {a : Option Addr} {M : List PR} {L : List Rw} (h : OwR w base (.slice a n cap) n M) (hM : rws M = L) : SlR w a L := by
  have := h.sl
  rw [hM] at this
  exact this
end Go.Proofs.Ytohcjafklfemfam.L14T
