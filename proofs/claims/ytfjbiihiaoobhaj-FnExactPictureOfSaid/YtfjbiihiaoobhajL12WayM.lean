/-
  Where a way is. Nothing of the program's text is proved here.
-/
import Derived.Test.YtfjbiihiaoobhajL1Sl
namespace Go.Proofs.Ytfjbiihiaoobhaj.L12
open Go.RowKit L1
set_option linter.unusedVariables false

/-- There is such a way. -/
def IsWay (N f t : Int) : Prop := 1 ≤ N ∧ N ≤ 5 ∧ 0 ≤ f ∧ f < N ∧ 0 ≤ t ∧ t < N ∧ f ≠ t
structure WayIs (N f t : Int) (r : Int) (ok : Bool) : Prop where
  yes : IsWay N f t → ok = true ∧ r = f * N + t
  no : ¬ IsWay N f t → ok = false ∧ r = 0
theorem way_small {N f t : Int} (h : IsWay N f t) : 0 ≤ f * N ∧ f * N ≤ 20 := by
  obtain ⟨h1, h2, h3, h4, _⟩ := h
  have a : f ≤ 4 := by omega
  exact ⟨Int.mul_nonneg h3 (by omega), by have := Int.mul_le_mul a h2 (by omega) (by omega); omega⟩
end Go.Proofs.Ytfjbiihiaoobhaj.L12
