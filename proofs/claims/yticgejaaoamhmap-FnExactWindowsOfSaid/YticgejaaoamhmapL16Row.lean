/-
  Small facts on samples' rows.
-/
import Derived.Test.YticgejaaoamhmapL16Ret
namespace Go.Proofs.Yticgejaaoamhmap.L16
open Go.RowKit L1
set_option linter.unusedVariables false

theorem cell_two16 (w : World) (p q : Value) (t : TypeId) : ∀ j u, [p, q][j]? = some u → (w.alloc (.cells #[p, q] t)).cell? ((⟨w.heap.size, 0, none⟩ : Addr).add j) = some u := by
  intro j u h
  rw [add_at16]
  match j, h with
  | 0, h => simp at h; subst h; simp
  | 1, h => simp at h; subst h; simp
  | j + 2, h => simp at h
theorem grown_cell16 {w w' : World} {row : Option Nat} (hg : w.grownBy w' row) {g o : Nat} {v : Value} (h : w.cell? ⟨g, o, none⟩ = some v) (hne : row ≠ some g) : w'.cell? ⟨g, o, none⟩ = some v := by
  have hb := hg.block g (blk_lt h) (Ne.symm hne)
  simp only [World.cell?, hb] at h ⊢
  exact h
theorem take_more16 {l : List (Int × Int)} {k : Nat} (h : k < l.length) : l.take (k + 1) = l.take k ++ [l.getD k (0, 0)] := by
  rw [List.take_succ_eq_append_getElem h]
  simp [List.getD, h]
end Go.Proofs.Yticgejaaoamhmap.L16
