/-
  The table of the digits' worths. Nothing of the program's text is proved here.
-/
import Derived.Test.YtapffbbmofhpoaaDoorL1Base
namespace Go.Proofs.YtapffbbmofhpoaaDoor.L1
open Go.RowKit
set_option linter.unusedVariables false

/-- The table of the digits' worths lies in memory as its initialiser lays it. -/
def Tab (w : World) : Prop := ∀ k : Nat, k < 6 → w.cell? ⟨0, k, none⟩ = some (.int .i64 (wor k))

theorem block_lt {w : World} {b o : Nat} {v : Value} (h : w.cell? ⟨b, o, none⟩ = some v) : b < w.heap.size := by
  by_cases hb : b < w.heap.size
  · exact hb
  · simp [World.cell?, Array.getElem?_eq_none (show w.heap.size ≤ b by omega)] at h
theorem Tab.below {w w' : World} (h : Tab w) (hb : Below w.heap.size w w') : Tab w' := fun k hk => by
  have hc := h k hk
  rw [hb.cell (p := ⟨0, k, none⟩) (block_lt hc)]
  exact hc
end Go.Proofs.YtapffbbmofhpoaaDoor.L1
