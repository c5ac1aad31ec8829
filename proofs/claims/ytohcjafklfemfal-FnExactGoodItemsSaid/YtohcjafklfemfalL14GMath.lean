/-
  What is good of items. Nothing of the program's text is proved here.
-/
import Derived.Test.YtohcjafklfemfalL14IMem
namespace Go.Proofs.Ytohcjafklfemfal.L14I
open Go.RowKit L1 L3
set_option linter.unusedVariables false

/-- A good item, and good items. -/
def okI (p : Rw) : Prop := GoodL p.l ∧ -1000000 ≤ p.v0 ∧ p.v0 ≤ 1000000
def UpTo (L : List Rw) (n : Nat) : Prop := ∀ j, j < n → okI (gr L j)
def GoodI (L : List Rw) : Prop := L.length ≤ 40 ∧ UpTo L L.length
theorem UpTo.next {L : List Rw} {k : Nat} (h : UpTo L k) (h1 : okI (gr L k)) : UpTo L (k + 1) := fun j hj => by
  by_cases e : j = k
  · subst e; exact h1
  · exact h j (by omega)
theorem bool_no14 {b : Bool} {p : Prop} (h : b = true ↔ p) (hp : ¬ p) : b = false := by
  cases b with
  | false => rfl
  | true => exact absurd (h.1 rfl) hp
end Go.Proofs.Ytohcjafklfemfal.L14I
