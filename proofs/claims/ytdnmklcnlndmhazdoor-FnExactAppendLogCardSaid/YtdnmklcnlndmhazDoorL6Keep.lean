/-
  Cells that stay where they are. Nothing of the program's text is proved here.
-/
import Derived.Test.YtdnmklcnlndmhazDoorL6Pc
namespace Go.Proofs.YtdnmklcnlndmhazDoor.L6
open Go.RowKit L1
set_option linter.unusedVariables false

theorem blk_ltA {w : World} {p : Addr} {v : Value} (h : w.cell? p = some v) : p.block < w.heap.size := by
  by_cases hb : p.block < w.heap.size
  · exact hb
  · simp [World.cell?, Array.getElem?_eq_none (show w.heap.size ≤ p.block by omega)] at h
theorem keep2 {wa wb W : World} {N : Nat} {p0 p1 : Addr} {v0 v1 : Value} (h : (wa.cell? p0 = some v0 ∧ wa.cell? p1 = some v1) ∧ Below N W wa) (hb : Below wa.heap.size wa wb) (hN : N ≤ W.heap.size) : (wb.cell? p0 = some v0 ∧ wb.cell? p1 = some v1) ∧ Below N W wb := by
  obtain ⟨⟨h0, h1⟩, hz⟩ := h
  exact ⟨⟨(hb.cell (blk_ltA h0)).trans h0, (hb.cell (blk_ltA h1)).trans h1⟩, hz.trans (hb.mono (Nat.le_trans hN hz.size))⟩
theorem keep3 {wa wb W : World} {N : Nat} {p0 p1 p2 : Addr} {v0 v1 v2 : Value} (h : (wa.cell? p0 = some v0 ∧ wa.cell? p1 = some v1 ∧ wa.cell? p2 = some v2) ∧ Below N W wa) (hb : Below wa.heap.size wa wb) (hN : N ≤ W.heap.size) : (wb.cell? p0 = some v0 ∧ wb.cell? p1 = some v1 ∧ wb.cell? p2 = some v2) ∧ Below N W wb := by
  obtain ⟨⟨h0, h1, h2⟩, hz⟩ := h
  exact ⟨⟨(hb.cell (blk_ltA h0)).trans h0, (hb.cell (blk_ltA h1)).trans h1, (hb.cell (blk_ltA h2)).trans h2⟩, hz.trans (hb.mono (Nat.le_trans hN hz.size))⟩
theorem keep4 {wa wb W : World} {N : Nat} {p0 p1 p2 p3 : Addr} {v0 v1 v2 v3 : Value} (h : (wa.cell? p0 = some v0 ∧ wa.cell? p1 = some v1 ∧ wa.cell? p2 = some v2 ∧ wa.cell? p3 = some v3) ∧ Below N W wa) (hb : Below wa.heap.size wa wb) (hN : N ≤ W.heap.size) : (wb.cell? p0 = some v0 ∧ wb.cell? p1 = some v1 ∧ wb.cell? p2 = some v2 ∧ wb.cell? p3 = some v3) ∧ Below N W wb := by
  obtain ⟨⟨h0, h1, h2, h3⟩, hz⟩ := h
  exact ⟨⟨(hb.cell (blk_ltA h0)).trans h0, (hb.cell (blk_ltA h1)).trans h1, (hb.cell (blk_ltA h2)).trans h2, (hb.cell (blk_ltA h3)).trans h3⟩, hz.trans (hb.mono (Nat.le_trans hN hz.size))⟩
theorem keep5 {wa wb W : World} {N : Nat} {p0 p1 p2 p3 p4 : Addr} {v0 v1 v2 v3 v4 : Value} (h : (wa.cell? p0 = some v0 ∧ wa.cell? p1 = some v1 ∧ wa.cell? p2 = some v2 ∧ wa.cell? p3 = some v3 ∧ wa.cell? p4 = some v4) ∧ Below N W wa) (hb : Below wa.heap.size wa wb) (hN : N ≤ W.heap.size) : (wb.cell? p0 = some v0 ∧ wb.cell? p1 = some v1 ∧ wb.cell? p2 = some v2 ∧ wb.cell? p3 = some v3 ∧ wb.cell? p4 = some v4) ∧ Below N W wb := by
  obtain ⟨⟨h0, h1, h2, h3, h4⟩, hz⟩ := h
  exact ⟨⟨(hb.cell (blk_ltA h0)).trans h0, (hb.cell (blk_ltA h1)).trans h1, (hb.cell (blk_ltA h2)).trans h2, (hb.cell (blk_ltA h3)).trans h3, (hb.cell (blk_ltA h4)).trans h4⟩, hz.trans (hb.mono (Nat.le_trans hN hz.size))⟩
theorem keep6 {wa wb W : World} {N : Nat} {p0 p1 p2 p3 p4 p5 : Addr} {v0 v1 v2 v3 v4 v5 : Value} (h : (wa.cell? p0 = some v0 ∧ wa.cell? p1 = some v1 ∧ wa.cell? p2 = some v2 ∧ wa.cell? p3 = some v3 ∧ wa.cell? p4 = some v4 ∧ wa.cell? p5 = some v5) ∧ Below N W wa) (hb : Below wa.heap.size wa wb) (hN : N ≤ W.heap.size) : (wb.cell? p0 = some v0 ∧ wb.cell? p1 = some v1 ∧ wb.cell? p2 = some v2 ∧ wb.cell? p3 = some v3 ∧ wb.cell? p4 = some v4 ∧ wb.cell? p5 = some v5) ∧ Below N W wb := by
  obtain ⟨⟨h0, h1, h2, h3, h4, h5⟩, hz⟩ := h
  exact ⟨⟨(hb.cell (blk_ltA h0)).trans h0, (hb.cell (blk_ltA h1)).trans h1, (hb.cell (blk_ltA h2)).trans h2, (hb.cell (blk_ltA h3)).trans h3, (hb.cell (blk_ltA h4)).trans h4, (hb.cell (blk_ltA h5)).trans h5⟩, hz.trans (hb.mono (Nat.le_trans hN hz.size))⟩
theorem keep8 {wa wb W : World} {N : Nat} {p0 p1 p2 p3 p4 p5 p6 p7 : Addr} {v0 v1 v2 v3 v4 v5 v6 v7 : Value} (h : (wa.cell? p0 = some v0 ∧ wa.cell? p1 = some v1 ∧ wa.cell? p2 = some v2 ∧ wa.cell? p3 = some v3 ∧ wa.cell? p4 = some v4 ∧ wa.cell? p5 = some v5 ∧ wa.cell? p6 = some v6 ∧ wa.cell? p7 = some v7) ∧ Below N W wa) (hb : Below wa.heap.size wa wb) (hN : N ≤ W.heap.size) : (wb.cell? p0 = some v0 ∧ wb.cell? p1 = some v1 ∧ wb.cell? p2 = some v2 ∧ wb.cell? p3 = some v3 ∧ wb.cell? p4 = some v4 ∧ wb.cell? p5 = some v5 ∧ wb.cell? p6 = some v6 ∧ wb.cell? p7 = some v7) ∧ Below N W wb := by
  obtain ⟨⟨h0, h1, h2, h3, h4, h5, h6, h7⟩, hz⟩ := h
  exact ⟨⟨(hb.cell (blk_ltA h0)).trans h0, (hb.cell (blk_ltA h1)).trans h1, (hb.cell (blk_ltA h2)).trans h2, (hb.cell (blk_ltA h3)).trans h3, (hb.cell (blk_ltA h4)).trans h4, (hb.cell (blk_ltA h5)).trans h5, (hb.cell (blk_ltA h6)).trans h6, (hb.cell (blk_ltA h7)).trans h7⟩, hz.trans (hb.mono (Nat.le_trans hN hz.size))⟩
end Go.Proofs.YtdnmklcnlndmhazDoor.L6
