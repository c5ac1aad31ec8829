/-
  Plain facts on the numbers of a chunk and the samples that they tell.
-/
import Derived.Test.YtapffbbmofhpoaaDoorL2Math
namespace Go.Proofs.YtapffbbmofhpoaaDoor.L1
open Go.RowKit
set_option linter.unusedVariables false

theorem sl_tail {w : World} {g off : Nat} {c : Int} {r : List Int} (h : Sl w (some ⟨g, off, none⟩) (c :: r)) : Sl w (some ⟨g, off + 1, none⟩) r := fun i hi => by
  have := h.at (i + 1) (by simpa using hi)
  rw [List.getD_cons_succ] at this
  exact ⟨g, off + 1, rfl, by rw [show off + 1 + i = off + (i + 1) by omega]; exact this⟩
theorem ofNums_ne {c : Int} {r : List Int} (h : ¬ (r.length : Int) = 2 * c) : ofNums (c :: r) = none := by
  simp only [ofNums]; rw [if_neg (fun hh => h hh.1)]
theorem ofNums_eq {c : Int} {r : List Int} (h : (r.length : Int) = 2 * c) (h2 : c ≤ 40) : ofNums (c :: r) = ofPairs r := by
  simp only [ofNums, ofPairs]
  by_cases hg : GoodS (unS (ev r) (od r))
  · rw [if_pos ⟨h, h2, hg⟩, if_pos hg]
  · rw [if_neg (fun hh => hg hh.2.2), if_neg hg]
end Go.Proofs.YtapffbbmofhpoaaDoor.L1
