/-
  What marked rows of ints hold. Nothing of the program's text is proved here.
-/
import Derived.Test.YtfmfnlpajoikmanL15Mem
import Derived.Test.YtfmfnlpajoikmanL4IntMarks
import Derived.Test.YtfmfnlpajoikmanL4IntHeld
import Derived.Deep.DeepCutAuto
namespace Go.Proofs.Ytfmfnlpajoikman.L15
open Go.RowKit L1 L4 Own Sli
set_option linter.unusedVariables false

theorem getD_set15 {α : Type} (G : List α) (d : α) (k i : Nat) (x : α) (hk : k < G.length) : (G.set k x).getD i d = if i = k then x else G.getD i d := by
  simp only [List.getD, List.getElem?_set]
  by_cases h : k = i
  · subst h; simp [hk]
  · simp [h, Ne.symm h]
/-- How many elements the first rows have. -/
def pre {α : Type} (G : List (List α)) : Nat → Nat
  | 0 => 0
  | j + 1 => pre G j + (G.getD j []).length
theorem pre_mono {α : Type} (G : List (List α)) : ∀ j k, j ≤ k → pre G j ≤ pre G k
  | j, 0, h => by have : j = 0 := by omega
                  subst this; exact Nat.le_refl _
  | j, k + 1, h => by
    by_cases e : j = k + 1
    · subst e; exact Nat.le_refl _
    · have := pre_mono G j k (by omega)
      simp only [pre]
      omega
section
variable {α : Type} (mk : Int → Nat → List α) (hmk : ∀ c n, (mk c n).length = n)
def mkUp (c : Int) (G : List (List α)) (j : Nat) : List (List α) := (List.range G.length).map fun i => if i < j then mk (c + (pre G i : Int)) (G.getD i []).length else G.getD i []
theorem mkUp_len (c : Int) (G : List (List α)) (j : Nat) : (mkUp mk c G j).length = G.length := by simp [mkUp]
theorem mkUp_get (c : Int) (G : List (List α)) (j i : Nat) (hi : i < G.length) : (mkUp mk c G j).getD i [] = if i < j then mk (c + (pre G i : Int)) (G.getD i []).length else G.getD i [] := by
  simp [mkUp, List.getD, hi]
include hmk in
theorem mkUp_gl (c : Int) (G : List (List α)) (j i : Nat) (hi : i < G.length) : ((mkUp mk c G j).getD i []).length = (G.getD i []).length := by
  rw [mkUp_get mk c G j i hi]
  split
  · rw [hmk]
  · rfl
theorem listSS_same {X Y : List (List α)} (h1 : X.length = Y.length) (h : ∀ i, i < X.length → X.getD i [] = Y.getD i []) : X = Y := by
  apply List.ext_getElem?
  intro j
  by_cases hj : j < X.length
  · have h := h j hj
    simp only [List.getD, List.getElem?_eq_getElem hj, List.getElem?_eq_getElem (show j < Y.length by omega), Option.getD_some] at h
    rw [List.getElem?_eq_getElem hj, List.getElem?_eq_getElem (show j < Y.length by omega), h]
  · rw [List.getElem?_eq_none (by omega), List.getElem?_eq_none (by omega)]
theorem mkUp_zero (c : Int) (G : List (List α)) : mkUp mk c G 0 = G := listSS_same (mkUp_len mk c G 0) fun i hi => by
  rw [mkUp_len] at hi
  rw [mkUp_get mk c G 0 i hi, if_neg (by omega)]
theorem mkUp_succ (c : Int) (G : List (List α)) (j : Nat) (hj : j < G.length) : mkUp mk c G (j + 1) = (mkUp mk c G j).set j (mk (c + (pre G j : Int)) (G.getD j []).length) := listSS_same (by simp [mkUp_len]) fun i hi => by
  rw [mkUp_len] at hi
  rw [mkUp_get mk c G (j + 1) i hi, getD_set15 _ _ _ _ _ (by rw [mkUp_len]; exact hj), mkUp_get mk c G j i hi]
  by_cases e : i = j
  · subst e
    rw [if_pos (by omega), if_pos rfl]
  · rw [if_neg e]
    by_cases h : i < j
    · rw [if_pos h, if_pos (by omega)]
    · rw [if_neg h, if_neg (by omega)]
end
structure SmS {α : Type} (G : List (List α)) : Prop where
  n : G.length ≤ 1048576
  p : pre G G.length ≤ 1048576
  s : ∀ i, i < G.length → (G.getD i []).length ≤ 1048576
end Go.Proofs.Ytfmfnlpajoikman.L15
