/-
  Lists that may be clocks. Nothing of the program's text is proved here.
-/
import Derived.Test.YtkfnejiiancmhaiL11Read
namespace Go.Proofs.Ytkfnejiiancmhai.L11
open Go.RowKit L1 Own
set_option linter.unusedVariables false

theorem own_baseJ {w : World} {b c n size : Nat} {e : TypeId} {v : Value} {xs : List Value} (h : w.ownsRow c e size v n xs) (hbc : b ≤ c) : w.ownsRow b e size v n xs := by
  refine ⟨h.1, ?_⟩
  rcases h.2 with h0 | ⟨g, cap, cur, hv, hg, r⟩
  · exact .inl h0
  · exact .inr ⟨g, cap, cur, hv, Nat.le_trans hbc hg, r⟩
/-- One clock is less than another. -/
def LsC (l m : List Int) : Prop := (∀ i, i < 5 → fnL l i ≤ fnL m i) ∧ ¬ ∀ i, i < 5 → fnL l i = fnL m i
/-- Two lists that may be clocks of the same nodes. -/
def TwoC (l m : List Int) : Prop := (OkC l ∧ OkC m) ∧ l.length = m.length
end Go.Proofs.Ytkfnejiiancmhai.L11
