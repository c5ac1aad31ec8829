/-
  What StartsOf answers.
-/
import Derived.Test.YtdnmklcnlndmhbaL7RetS
namespace Go.Proofs.Ytdnmklcnlndmhba.L7
open Go.RowKit L1
set_option linter.unusedVariables false

open Classical in
/-- What StartsOf answers. -/
noncomputable def stsR (l : List En) : Option (List (Int × Int)) := if GoodE l then some (sts l) else none
theorem stsR_len (l : List En) : ((stsR l).getD []).length ≤ 40 := by
  unfold stsR
  split
  · rename_i h
    have h1 := h.1
    have h2 := stsK_len l l.length
    show (sts l).length ≤ 40
    unfold sts
    omega
  · simp
/-- Starts that a call hands back, in new memory, and whether there are some. -/
def RetT7 (w : World) (r : Option (List (Int × Int))) (e : Ending) (w' : World) : Prop :=
  ∃ v, e = .returned (.tuple #[v, .bool r.isSome]) ∧ w'.ownsRow w.heap.size 45 2 v (r.getD []).length (flatS (r.getD [])) ∧ Below w.heap.size w w'
end Go.Proofs.Ytdnmklcnlndmhba.L7
