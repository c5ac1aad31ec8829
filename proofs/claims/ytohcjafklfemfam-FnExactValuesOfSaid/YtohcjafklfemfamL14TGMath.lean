/-
  What is good of totals. Nothing of the program's text is proved here.
-/
import Derived.Test.YtohcjafklfemfamL14TMem
import Derived.Test.YtohcjafklfemfamL3TextMath
namespace Go.Proofs.Ytohcjafklfemfam.L14T
open Go.RowKit L1 L3
set_option linter.unusedVariables false

/-- A good total (v0 Sum, v1 Count, v2 Least, v3 Most), and good totals. -/
def okN (v0 v1 v2 v3 : Int) : Prop := (1 ≤ v1 ∧ v1 ≤ 1000) ∧ (-1000000000 ≤ v0 ∧ v0 ≤ 1000000000) ∧ (-1000000 ≤ v2 ∧ v2 ≤ 1000000) ∧ (-1000000 ≤ v3 ∧ v3 ≤ 1000000) ∧ v2 ≤ v3
def okT (p : Rw) : Prop := GoodL p.l ∧ okN p.v0 p.v1 p.v2 p.v3
def UpTo (L : List Rw) (n : Nat) : Prop := ∀ j, j < n → okT (gr L j) ∧ (0 < j → Ahead (ltext (gr L (j - 1)).l) (ltext (gr L j).l))
def GoodT (L : List Rw) : Prop := L.length ≤ 40 ∧ UpTo L L.length
theorem UpTo.next {L : List Rw} {k : Nat} (h : UpTo L k) (h1 : okT (gr L k)) (h2 : 0 < k → Ahead (ltext (gr L (k - 1)).l) (ltext (gr L k).l)) : UpTo L (k + 1) := fun j hj => by
  by_cases e : j = k
  · subst e; exact ⟨h1, h2⟩
  · exact h j (by omega)
theorem bool_no14 {b : Bool} {p : Prop} (h : b = true ↔ p) (hp : ¬ p) : b = false := by
  cases b with
  | false => rfl
  | true => exact absurd (h.1 rfl) hp
theorem boolP (p : Prop) : ∃ b : Bool, b = true ↔ p := by classical exact ⟨decide p, by simp⟩
theorem bool_same {a b : Bool} {p q : Prop} (e : p ↔ q) (h1 : a = true ↔ p) (h2 : b = true ↔ q) : a = b := by
  rw [Bool.eq_iff_iff]
  exact (h1.trans e).trans h2.symm
end Go.Proofs.Ytohcjafklfemfam.L14T
