/-
  What stands behind spec.l6Append's writing.
-/
import Derived.Test.YtdnmklcnlndmhazDoorL6SAppN
import Derived.Test.YtdnmklcnlndmhazDoorL1Varint
import Derived.Test.YtdnmklcnlndmhazDoorL6SPiece
import Derived.Test.YtdnmklcnlndmhazDoorL6AppM
namespace Go.Proofs.YtdnmklcnlndmhazDoor.L6
open Go.RowKit L1
set_option linter.unusedVariables false

theorem empty6 (s : ByteArray) : s.toList.isEmpty = decide (s.size = 0) := by
  rw [ByteArray.toList_eq]
  have : s.size = s.data.toList.length := by show s.data.size = _; simp
  rw [this]
  cases s.data.toList with
  | nil => simp
  | cons x l => simp
theorem OwC.setB2 {w : World} {base n G : Nat} {v u u2 : Value} {M : List PV} {cs : Array Value} {T : TypeId} (h : OwC w base v n M) (hG : w.heap[G]? = some (.cells cs T (0, 0))) (h1 : 51 ≠ T) (h2 : 3 ≠ T) : OwC ((w.setCell ⟨G, 0, none⟩ u).setCell ⟨G, 1, none⟩ u2) base v n M :=
  (h.setB hG h1 h2).setB (heap_setCell_same w G 0 _ _ u hG) h1 h2
/-- What stands behind l6Append's writing. -/
structure PutS (w : World) (base g n c m : Nat) (B : Int) (M : List PV) (p : Pc) (wx : World) : Prop where
  own : ∃ u, OwC wx base (.slice (some ⟨g, 0, none⟩) n c) n (M.set m (p, u))
  bel : Below base w wx
  res : wx.heap[w.heap.size + 1]? = some (.cells #[.slice none 0 0, .int .i64 0] 29 (0, 0))
  out : wx.heap[w.heap.size]? = some (.cells #[.slice (some ⟨g, 0, none⟩) n c, .int .i64 B] 29 (0, 0))
structure MoreS (w : World) (base n : Nat) (B : Int) (M : List PV) (p : Pc) (wx : World) : Prop where
  own : ∃ g c u, OwC wx base (.slice (some ⟨g, 0, none⟩) (n + 1) c) (n + 1) (M ++ [(p, u)]) ∧ wx.heap[w.heap.size]? = some (.cells #[.slice (some ⟨g, 0, none⟩) (n + 1) c, .int .i64 B] 29 (0, 0))
  bel : Below base w wx
  res : wx.heap[w.heap.size + 1]? = some (.cells #[.slice none 0 0, .int .i64 0] 29 (0, 0))
end Go.Proofs.YtdnmklcnlndmhazDoor.L6
