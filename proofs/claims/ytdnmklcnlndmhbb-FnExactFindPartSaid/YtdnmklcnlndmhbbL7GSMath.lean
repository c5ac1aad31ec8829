/-
  What is good of starts.
-/
import Derived.Test.YtdnmklcnlndmhbbL7Math
import Derived.Test.YtdnmklcnlndmhbbL7Sta
namespace Go.Proofs.Ytdnmklcnlndmhbb.L7
open Go.RowKit L1
set_option linter.unusedVariables false

/-- The least Epoch and At that may stand at a place. -/
def lsS (l : List (Int × Int)) : Nat → Int
  | 0 => 1
  | k + 1 => (l.getD k (0, 0)).1 + 1
def laS (l : List (Int × Int)) : Nat → Int
  | 0 => 0
  | k + 1 => (l.getD k (0, 0)).2 + 1
/-- The start at a place is good behind those ahead. -/
def StepS (l : List (Int × Int)) (en : Int) (k : Nat) : Prop := lsS l k ≤ (l.getD k (0, 0)).1 ∧ (l.getD k (0, 0)).1 ≤ 1000 ∧ laS l k ≤ (l.getD k (0, 0)).2 ∧ (l.getD k (0, 0)).2 < en
theorem ls_ge (l : List (Int × Int)) (en : Int) (k : Nat) (h : ∀ j, j < k → StepS l en j) : 1 ≤ lsS l k ∧ 0 ≤ laS l k := by
  induction k with
  | zero => simp [lsS, laS]
  | succ k ih =>
    have h0 := h k (by omega)
    have h1 := ih (fun j hj => h j (by omega))
    unfold StepS at h0
    show 1 ≤ (l.getD k (0, 0)).1 + 1 ∧ 0 ≤ (l.getD k (0, 0)).2 + 1
    omega
theorem goodS_step (l : List (Int × Int)) (en : Int) : GoodS l en ↔ (l.length ≤ 40 ∧ 0 ≤ en ∧ en ≤ 40) ∧ ∀ j, j < l.length → StepS l en j := by
  constructor
  · rintro ⟨h1, h2⟩
    refine ⟨h1, fun j hj => ?_⟩
    have h := h2 j hj
    unfold okS at h
    unfold StepS
    cases j with
    | zero => simp only [lsS, laS]; omega
    | succ j => have h3 := h.2 (by omega); simp only [Nat.add_sub_cancel] at h3; simp only [lsS, laS]; omega
  · rintro ⟨h1, h2⟩
    refine ⟨h1, fun j hj => ?_⟩
    have h := h2 j hj
    have hl := ls_ge l en j (fun i hi => h2 i (by omega))
    unfold StepS at h
    unfold okS
    refine ⟨by omega, fun h0 => ?_⟩
    cases j with
    | zero => omega
    | succ j => simp only [lsS, laS] at h; simp only [Nat.add_sub_cancel]; omega
/-- What the model asks of the start at a place. -/
def PS (l : List (Int × Int)) (E1 : Int) (j : Nat) : Prop := (1 ≤ (l.getD j (0, 0)).1 ∧ (l.getD j (0, 0)).1 ≤ 1000) ∧ (0 ≤ (l.getD j (0, 0)).2 ∧ (l.getD j (0, 0)).2 ≤ E1) ∧ (0 < j → (l.getD (j - 1) (0, 0)).1 < (l.getD j (0, 0)).1 ∧ (l.getD (j - 1) (0, 0)).2 < (l.getD j (0, 0)).2)
theorem goodS_PS (l : List (Int × Int)) (en E1 : Int) (hE : 0 ≤ en → en ≤ 40 → E1 = en - 1) : GoodS l en ↔ (l.length ≤ 40 ∧ 0 ≤ en ∧ en ≤ 40) ∧ ∀ j, j < l.length → PS l E1 j := by
  constructor
  · rintro ⟨h1, h2⟩
    refine ⟨h1, fun j hj => ?_⟩
    have h := h2 j hj
    have := hE h1.2.1 h1.2.2
    unfold okS at h
    exact ⟨⟨by omega, by omega⟩, ⟨by omega, by omega⟩, h.2⟩
  · rintro ⟨h1, h2⟩
    refine ⟨h1, fun j hj => ?_⟩
    have h := h2 j hj
    have := hE h1.2.1 h1.2.2
    unfold PS at h
    unfold okS
    exact ⟨by omega, h.2.2⟩
end Go.Proofs.Ytdnmklcnlndmhbb.L7
