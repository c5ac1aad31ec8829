/-
  Starts that a call hands back; small facts on new memory.
-/
import Derived.Test.YtdnmklcnlndmhbbL7Sta
import Derived.Test.YtdnmklcnlndmhbbL7Math
import Derived.Maps.AppendAt
namespace Go.Proofs.Ytdnmklcnlndmhbb.L7
open Go.RowKit L1
set_option linter.unusedVariables false

/-- Starts that a call hands back, in new memory. -/
def RetS (w : World) (r : List (Int × Int)) (e : Ending) (w' : World) : Prop :=
  ∃ v, e = .returned v ∧ w'.ownsRow w.heap.size 58 2 v r.length (flatS r) ∧ Below w.heap.size w w'
theorem own_drewN {w : World} {base n c : Nat} {t : TypeId} {v : Value} {ys : List Value} (h : w.ownsRow base t c v n ys) (q : Nat) : (w.drewN q).ownsRow base t c v n ys := h
theorem cell_two_newT (w : World) (p q : Value) (t : TypeId) : ∀ j u, [p, q][j]? = some u → (w.alloc (.cells #[p, q] t)).cell? ((⟨w.heap.size, 0, none⟩ : Addr).add j) = some u := by
  intro j u h
  rw [addr_add]
  match j, h with
  | 0, h => simp at h; subst h; simp
  | 1, h => simp at h; subst h; simp
  | j + 2, h => simp at h
theorem cell_two_new2 (w : World) (o : Obj) (p q : Value) (t : TypeId) : ∀ j u, [p, q][j]? = some u → ((w.alloc o).alloc (.cells #[p, q] t)).cell? ((⟨w.heap.size + 1, 0, none⟩ : Addr).add j) = some u := by
  intro j u h
  have := cell_two_newT (w.alloc o) p q t j u h
  simpa using this
theorem cell_two_newD (w : World) (n : Nat) (o : Obj) (p q : Value) (t : TypeId) : ∀ j u, [p, q][j]? = some u → (((w.alloc o).drewN n).alloc (.cells #[p, q] t)).cell? ((⟨w.heap.size + 1, 0, none⟩ : Addr).add j) = some u := by
  intro j u h
  have := cell_two_newT ((w.alloc o).drewN n) p q t j u h
  simpa using this
end Go.Proofs.Ytdnmklcnlndmhbb.L7
