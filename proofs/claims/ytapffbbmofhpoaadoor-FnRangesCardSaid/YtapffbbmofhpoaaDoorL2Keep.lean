/-
  Small facts that the walks of chapter 2 share: the numbers of a chunk by one sample more; two cells that stay while only new memory is laid.
-/
import Derived.Test.YtapffbbmofhpoaaDoorL2Smp
namespace Go.Proofs.YtapffbbmofhpoaaDoor.L1
open Go.RowKit
set_option linter.unusedVariables false

theorem nums_take {bs cs : List Int} {k n : Nat} (h1 : bs.length = n) (h2 : cs.length = n) (hk : k < n) (c : Int) : c :: inter (bs.take (k + 1)) (cs.take (k + 1)) = (c :: inter (bs.take k) (cs.take k)) ++ [bs.getD k 0, cs.getD k 0] := by
  rw [inter_take bs cs k (by omega) (by omega)]
  rfl
theorem keepA {wa wb : World} {B1 O1 B2 O2 N : Nat} {v1 v2 : Value} {W : World} (h : wa.cell? ⟨B1, O1, none⟩ = some v1 ∧ wa.cell? ⟨B2, O2, none⟩ = some v2 ∧ Below N W wa) (hb : Below N wa wb) (h1 : B1 < N) (h2 : B2 < N) :
    wb.cell? ⟨B1, O1, none⟩ = some v1 ∧ wb.cell? ⟨B2, O2, none⟩ = some v2 ∧ Below N W wb :=
  ⟨(hb.cell (p := ⟨B1, O1, none⟩) h1).trans h.1, (hb.cell (p := ⟨B2, O2, none⟩) h2).trans h.2.1, h.2.2.trans hb⟩
end Go.Proofs.YtapffbbmofhpoaaDoor.L1
