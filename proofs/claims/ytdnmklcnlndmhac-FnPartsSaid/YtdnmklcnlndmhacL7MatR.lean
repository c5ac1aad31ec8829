/-
  What IsNewer and MatchLogs answer.
-/
import Derived.Test.YtdnmklcnlndmhacL7MatMath
namespace Go.Proofs.Ytdnmklcnlndmhac.L7
open Go.RowKit L1
set_option linter.unusedVariables false

theorem bool_iff7 {v b : Bool} (h : v = true ↔ b = true) : v = b := by
  cases v <;> cases b <;> simp at h <;> rfl
open Classical in
/-- What IsNewer answers. -/
noncomputable def newR (l m : List En) : Bool × Bool := if GoodE l ∧ GoodE m then (decide (NewE l m), true) else (false, false)
open Classical in
/-- What MatchLogs answers. -/
noncomputable def matR (l m : List En) : Bool × Bool := if GoodE l ∧ GoodE m then (decide (MatP l m), true) else (false, false)
theorem newR_of {l m : List En} (h : GoodE l ∧ GoodE m) : ∃ mv : Bool, newR l m = (mv, true) ∧ (mv = true ↔ NewE l m) := by
  unfold newR
  rw [if_pos h]
  exact ⟨_, rfl, by simp⟩
theorem matR_of {l m : List En} (h : GoodE l ∧ GoodE m) : ∃ mv : Bool, matR l m = (mv, true) ∧ (mv = true ↔ MatP l m) := by
  unfold matR
  rw [if_pos h]
  exact ⟨_, rfl, by simp⟩
end Go.Proofs.Ytdnmklcnlndmhac.L7
