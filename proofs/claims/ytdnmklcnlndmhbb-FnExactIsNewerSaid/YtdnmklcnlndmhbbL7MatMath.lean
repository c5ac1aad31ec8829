/-
  Logs that are newer, and logs of one history.
-/
import Derived.Test.YtdnmklcnlndmhbbL7Math
namespace Go.Proofs.Ytdnmklcnlndmhbb.L7
open Go.RowKit L1
set_option linter.unusedVariables false

/-- The last Epoch, 0 for none. -/
def lastE (l : List En) : Int := if l.length = 0 then 0 else (l.getD (l.length - 1) eE).1
/-- A log is newer than another. -/
def NewE (l m : List En) : Prop := lastE m < lastE l ∨ lastE l = lastE m ∧ m.length < l.length
/-- Each Epoch that both have begins at one place. -/
def BegP (S T : List (Int × Int)) : Prop := ∀ i, i < S.length → ∀ j, j < T.length → (S.getD i (0, 0)).1 = (T.getD j (0, 0)).1 → (S.getD i (0, 0)).2 = (T.getD j (0, 0)).2
/-- No place from one on has one Epoch in both. -/
def StayP (l m : List En) (p : Nat) : Prop := ∀ i, p ≤ i → i < l.length → i < m.length → (l.getD i eE).1 ≠ (m.getD i eE).1
/-- Two logs have one history. -/
def MatP (l m : List En) : Prop := BegP (sts l) (sts m) ∧ StayP l m (prt l m)
end Go.Proofs.Ytdnmklcnlndmhbb.L7
