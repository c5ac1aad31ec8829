/-
  What markXS writes into lists of structs of an int, an int and a text. Nothing of the program's text is proved here.
-/
import Derived.Test.YthmekhhfihjclafTri
import Derived.Test.YthmekhhfihjclafL3MarkText
namespace Go.Proofs.Ythmekhhfihjclaf.Tri
open Go.RowKit L1 L3
set_option linter.unusedVariables false

def mk3 (c : Int) (n : Nat) : List Tr := (List.range n).map fun i : Nat => ((c + 3 * (i : Int)), (c + 3 * (i : Int) + 1), mkT (c + 3 * (i : Int) + 1 + 1))
theorem mk3_len (c : Int) (n : Nat) : (mk3 c n).length = n := by simp [mk3]
theorem mk3_get (c : Int) (n j : Nat) (h : j < n) : (mk3 c n).getD j e3 = ((c + 3 * (j : Int)), (c + 3 * (j : Int) + 1), mkT (c + 3 * (j : Int) + 1 + 1)) := by
  simp [mk3, List.getD, h]
theorem grown_below3 {w w' : World} (h : Below w.heap.size w w') (row : Option Nat) : w.grownBy w' row := ⟨h.os, h.tape, h.output, h.size, fun k hk _ => h.block k hk⟩
theorem keep1T {wa wb : World} {B1 O1 N : Nat} {v1 : Value} {W : World} (h : wa.cell? ⟨B1, O1, none⟩ = some v1 ∧ Below N W wa) (hb : Below wa.heap.size wa wb) (hN : N ≤ W.heap.size) :
    wb.cell? ⟨B1, O1, none⟩ = some v1 ∧ Below N W wb :=
  ⟨(hb.cell (p := ⟨B1, O1, none⟩) (blk_lt h.1)).trans h.1, h.2.trans (hb.mono (Nat.le_trans hN h.2.size))⟩
end Go.Proofs.Ythmekhhfihjclaf.Tri
