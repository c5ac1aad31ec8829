/-
  What is good of a head. Nothing of the program's text is proved here.
-/
import Derived.Test.YtbcnkglcfjineakDoorL13Mem
import Derived.Test.YtbcnkglcfjineakDoorL3WordB
namespace Go.Proofs.YtbcnkglcfjineakDoor.L13
open Go.RowKit L1
set_option linter.unusedVariables false

/-- A good row, and a good head. -/
def GoodRw (p : Rw) : Prop := L3.Word false p.nm ∧ 0 < p.l.length ∧ GoodS p.l
def UpTo (L : List Rw) (n : Nat) : Prop := ∀ j, j < n → GoodRw (gr L j) ∧ (0 < j → L3.Ahead (gr L (j - 1)).nm (gr L j).nm)
def GoodH (L : List Rw) (o : Int) : Prop := L.length ≤ 8 ∧ (0 ≤ o ∧ o ≤ 1000) ∧ UpTo L L.length
theorem UpTo.next {L : List Rw} {k : Nat} (h : UpTo L k) (h1 : GoodRw (gr L k)) (h2 : 0 < k → L3.Ahead (gr L (k - 1)).nm (gr L k).nm) : UpTo L (k + 1) := fun j hj => by
  by_cases e : j = k
  · subst e; exact ⟨h1, h2⟩
  · exact h j (by omega)
theorem bool_no13 {b : Bool} {p : Prop} (h : b = true ↔ p) (hp : ¬ p) : b = false := by
  cases b with
  | false => rfl
  | true => exact absurd (h.1 rfl) hp
theorem bool_same {a b : Bool} {p q : Prop} (e : p ↔ q) (h1 : a = true ↔ p) (h2 : b = true ↔ q) : a = b := by
  rw [Bool.eq_iff_iff]
  exact (h1.trans e).trans h2.symm
theorem boolP (p : Prop) : ∃ b : Bool, b = true ↔ p := by classical exact ⟨decide p, by simp⟩
end Go.Proofs.YtbcnkglcfjineakDoor.L13
