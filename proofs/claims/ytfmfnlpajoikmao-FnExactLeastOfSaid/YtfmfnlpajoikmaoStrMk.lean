/-
  What markStringS writes.
-/
import Derived.Test.YtfmfnlpajoikmaoStr
import Derived.Test.YtfmfnlpajoikmaoL3MarkText
namespace Go.Proofs.Ytfmfnlpajoikmao.Str
open Go.RowKit L1 L3
set_option linter.unusedVariables false

def mkS (c : Int) (n : Nat) : List ByteArray := (List.range n).map fun i : Nat => mkT (c + (i : Int))
theorem mkS_len (c : Int) (n : Nat) : (mkS c n).length = n := by simp [mkS]
theorem mkS_get (c : Int) (n j : Nat) (h : j < n) : (mkS c n).getD j e0 = mkT (c + (j : Int)) := by
  simp [mkS, List.getD, h]
theorem grown_belowS {w w' : World} (h : Below w.heap.size w w') (row : Option Nat) : w.grownBy w' row := ⟨h.os, h.tape, h.output, h.size, fun k hk _ => h.block k hk⟩
theorem blk_ltS {w : World} {p : Addr} {v : Value} (h : w.cell? p = some v) : p.block < w.heap.size := by
  by_cases hb : p.block < w.heap.size
  · exact hb
  · simp [World.cell?, Array.getElem?_eq_none (show w.heap.size ≤ p.block by omega)] at h
theorem keep1S {wa wb W : World} {N : Nat} {p : Addr} {v : Value} (h : wa.cell? p = some v ∧ Below N W wa) (hb : Below wa.heap.size wa wb) (hN : N ≤ W.heap.size) : wb.cell? p = some v ∧ Below N W wb :=
  ⟨(hb.cell (blk_ltS h.1)).trans h.1, h.2.trans (hb.mono (Nat.le_trans hN h.2.size))⟩
end Go.Proofs.Ytfmfnlpajoikmao.Str
