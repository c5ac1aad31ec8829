/-
  What stays where one block alone is written into. Nothing of the program's text is proved here.
-/
import Derived.Test.YtdnmklcnlndmhazDoorL6Whole0
namespace Go.Proofs.YtdnmklcnlndmhazDoor.L6
open Go.RowKit L1
set_option linter.unusedVariables false

theorem grown_below {w w' : World} {r : Option Nat} (hb : Below w.heap.size w w') : w.grownBy w' r := ⟨hb.os, hb.tape, hb.output, hb.size, fun k hk _ => hb.block k hk⟩
theorem grown_cell {w w' : World} {r : Option Nat} (hg : w.grownBy w' r) (p : Addr) {v : Value} (h : w.cell? p = some v) (hne : some p.block ≠ r) : w'.cell? p = some v := by
  have hb : p.block < w.heap.size := by
    by_cases hb : p.block < w.heap.size
    · exact hb
    · simp [World.cell?, Array.getElem?_eq_none (show w.heap.size ≤ p.block by omega)] at h
  have := hg.block p.block hb hne
  rw [← h]
  simp only [World.cell?, this]
theorem sl_grown {w w' : World} {r : Option Nat} {a : Option Addr} {xs : List Int} (h : Sl w a xs) (hg : w.grownBy w' r) (hne : ∀ x, a = some x → some x.block ≠ r) : Sl w' a xs := fun i hi => by
  obtain ⟨b, off, ha, hc⟩ := h i hi
  exact ⟨b, off, ha, grown_cell hg ⟨b, off + i, none⟩ hc (hne ⟨b, off, none⟩ ha)⟩

end Go.Proofs.YtdnmklcnlndmhazDoor.L6
