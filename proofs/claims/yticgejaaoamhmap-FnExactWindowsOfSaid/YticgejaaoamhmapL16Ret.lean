/-
  Samples that a call hands back, in new memory.
-/
import Derived.Test.YticgejaaoamhmapL16Box
import Derived.Test.YticgejaaoamhmapL16App
import Derived.Deep.RegionHeld3
namespace Go.Proofs.Yticgejaaoamhmap.L16
open Go.RowKit L1
set_option linter.unusedVariables false

theorem ext2 {xs ys : List (Int × Int)} (h1 : xs.length = ys.length) (h : ∀ j, j < ys.length → xs.getD j (0, 0) = ys.getD j (0, 0)) : xs = ys := by
  apply List.ext_getElem h1
  intro j ha hb
  have := h j hb
  simpa [List.getD, ha, hb] using this
/-- Samples that a call hands back, in new memory, and whether there are some. -/
def RetS16 (w : World) (r : Option (List (Int × Int))) (e : Ending) (w' : World) : Prop :=
  ∃ v, e = .returned (.tuple #[v, .bool r.isSome]) ∧ w'.ownsRow w.heap.size 42 2 v (r.getD []).length (flat (r.getD [])) ∧ Below w.heap.size w w'
theorem retS_none {w w' : World} {r : Option (List (Int × Int))} (h : r = none) (hb : Below w.heap.size w w') : RetS16 w r (.returned (.tuple #[.slice none 0 0, .bool false])) w' :=
  ⟨.slice none 0 0, by rw [h]; rfl, by rw [h]; exact World.ownsRow_nil _ _ _ _, hb⟩
theorem cell_ne16 {w : World} {p q : Addr} {v : Value} (h : q ≠ p) : (w.setCell p v).cell? q = w.cell? q := by first | exact World.cell?_setCell_other _ (Ne.symm h) | exact World.cell?_setCell_other _ _ (Ne.symm h) | exact World.cell?_setCell_other _ _ _ (Ne.symm h) | exact World.cell?_setCell_other _ _ _ _ (Ne.symm h)
theorem own_baseS16 {w : World} {b c n size : Nat} {e : TypeId} {v : Value} {xs : List Value} (h : w.ownsRow c e size v n xs) (hbc : b ≤ c) : w.ownsRow b e size v n xs := by
  refine ⟨h.1, ?_⟩
  rcases h.2 with h0 | ⟨g, cap, cur, hv, hg, r⟩
  · exact .inl h0
  · exact .inr ⟨g, cap, cur, hv, Nat.le_trans hbc hg, r⟩
end Go.Proofs.Yticgejaaoamhmap.L16
