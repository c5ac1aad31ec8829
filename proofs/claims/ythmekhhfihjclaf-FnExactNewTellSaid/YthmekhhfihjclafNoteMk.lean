/-
  What markNoteS writes. Nothing of the program's text is proved here.
-/
import Derived.Test.YthmekhhfihjclafNote
import Derived.Test.YthmekhhfihjclafL3MarkText
namespace Go.Proofs.Ythmekhhfihjclaf.Nte
open Go.RowKit L1 L3
set_option linter.unusedVariables false

def b3 (c : Int) : Bool := c % 3 == 0
def mk4 (c : Int) (n : Nat) : List Nt := (List.range n).map fun i : Nat => (b3 (c + 4 * (i : Int)), c + 4 * (i : Int) + 1, c + 4 * (i : Int) + 1 + 1, mkT (c + 4 * (i : Int) + 1 + 1 + 1))
theorem mk4_len (c : Int) (n : Nat) : (mk4 c n).length = n := by simp [mk4]
theorem mk4_get (c : Int) (n j : Nat) (h : j < n) : (mk4 c n).getD j e4 = (b3 (c + 4 * (j : Int)), c + 4 * (j : Int) + 1, c + 4 * (j : Int) + 1 + 1, mkT (c + 4 * (j : Int) + 1 + 1 + 1)) := by
  simp [mk4, List.getD, h]
theorem grown_below4 {w w' : World} (h : Below w.heap.size w w') (row : Option Nat) : w.grownBy w' row := ⟨h.os, h.tape, h.output, h.size, fun k hk _ => h.block k hk⟩
theorem keep1N {wa wb : World} {B1 O1 N : Nat} {v1 : Value} {W : World} (h : wa.cell? ⟨B1, O1, none⟩ = some v1 ∧ Below N W wa) (hb : Below wa.heap.size wa wb) (hN : N ≤ W.heap.size) :
    wb.cell? ⟨B1, O1, none⟩ = some v1 ∧ Below N W wb :=
  ⟨(hb.cell (p := ⟨B1, O1, none⟩) (blk_lt h.1)).trans h.1, h.2.trans (hb.mono (Nat.le_trans hN h.2.size))⟩
end Go.Proofs.Ythmekhhfihjclaf.Nte
