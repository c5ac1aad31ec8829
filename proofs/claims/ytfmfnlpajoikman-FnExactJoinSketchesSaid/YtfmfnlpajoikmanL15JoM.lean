/-
  Two sketches joined. Nothing of the program's text is proved here.
-/
import Derived.Test.YtfmfnlpajoikmanL15AddM
namespace Go.Proofs.Ytfmfnlpajoikman.L15
open Go.RowKit L1 Own Sli
set_option linter.unusedVariables false

/-- The first numbers of two rows together. -/
def joinP (x y : List Int) (j : Nat) : List Int := (List.range x.length).map fun i => if i < j then x.getD i 0 + y.getD i 0 else x.getD i 0
theorem joinP_len (x y : List Int) (j : Nat) : (joinP x y j).length = x.length := by simp [joinP]
theorem joinP_get (x y : List Int) (j i : Nat) (hi : i < x.length) : (joinP x y j).getD i 0 = if i < j then x.getD i 0 + y.getD i 0 else x.getD i 0 := by
  simp [joinP, List.getD, hi]
theorem ints_ext {X Y : List Int} (h1 : X.length = Y.length) (h : ∀ i, i < X.length → X.getD i 0 = Y.getD i 0) : X = Y := by
  apply List.ext_getElem?
  intro j
  by_cases hj : j < X.length
  · have h := h j hj
    simp only [List.getD, List.getElem?_eq_getElem hj, List.getElem?_eq_getElem (show j < Y.length by omega), Option.getD_some] at h
    rw [List.getElem?_eq_getElem hj, List.getElem?_eq_getElem (show j < Y.length by omega), h]
  · rw [List.getElem?_eq_none (by omega), List.getElem?_eq_none (by omega)]
theorem joinP_zero (x y : List Int) : joinP x y 0 = x := ints_ext (joinP_len x y 0) fun i hi => by
  rw [joinP_len] at hi
  rw [joinP_get x y 0 i hi, if_neg (Nat.not_lt_zero _)]
theorem joinP_succ (x y : List Int) (j : Nat) (hj : j < x.length) : joinP x y (j + 1) = (joinP x y j).set j (x.getD j 0 + y.getD j 0) := ints_ext (by simp [joinP_len]) fun i hi => by
  rw [joinP_len] at hi
  rw [joinP_get x y (j + 1) i hi, getD_set15 _ _ _ _ _ (by rw [joinP_len]; exact hj), joinP_get x y j i hi]
  by_cases e : i = j
  · subst e
    rw [if_pos (by omega), if_pos rfl]
  · rw [if_neg e]
    by_cases h : i < j
    · rw [if_pos h, if_pos (by omega)]
    · rw [if_neg h, if_neg (by omega)]
theorem joinP_at (x y : List Int) (j : Nat) (hj : j < x.length) : (joinP x y j).getD j 0 = x.getD j 0 := by
  rw [joinP_get x y j j hj, if_neg (Nat.lt_irrefl _)]
abbrev joinR (A B : List (List Int)) (i : Nat) : List Int := joinP (gi A i) (gi B i) 11
abbrev joinA (A B : List (List Int)) : List (List Int) := upTo (joinR A B) A A.length
def JoinOk (A : List (List Int)) (TA : Int) (B : List (List Int)) (TB : Int) : Prop := (GoodS A TA ∧ GoodS B TB) ∧ A.length = B.length
/-- A row under way. -/
abbrev joinK (A B : List (List Int)) (k j : Nat) : List (List Int) := (upTo (joinR A B) A k).set k (joinP (gi A k) (gi B k) j)
theorem joinK_zero (A B : List (List Int)) (k : Nat) (hk : k < A.length) : joinK A B k 0 = upTo (joinR A B) A k := by
  unfold joinK
  rw [joinP_zero]
  refine listSS_same (by simp) fun i hi => ?_
  rw [List.length_set] at hi
  rw [getD_set15 _ _ _ _ _ (by rw [upTo_len]; exact hk)]
  by_cases e : i = k
  · subst e
    rw [if_pos rfl]
    exact (upTo_at (joinR A B) A i hk).symm
  · rw [if_neg e]
theorem joinK_all (A B : List (List Int)) (k : Nat) (hk : k < A.length) : joinK A B k 11 = upTo (joinR A B) A (k + 1) := (upTo_succ (joinR A B) A k hk).symm
theorem joinK_row (A B : List (List Int)) (k j : Nat) (hk : k < A.length) : gi (joinK A B k j) k = joinP (gi A k) (gi B k) j := by
  unfold gi joinK
  rw [getD_set15 _ _ _ _ _ (by rw [upTo_len]; exact hk), if_pos rfl]
theorem joinK_succ (A B : List (List Int)) (k j : Nat) (hj : j < (gi A k).length) : joinK A B k (j + 1) = (joinK A B k j).set k ((joinP (gi A k) (gi B k) j).set j ((gi A k).getD j 0 + (gi B k).getD j 0)) := by
  unfold joinK
  rw [joinP_succ _ _ _ hj]
  simp
end Go.Proofs.Ytfmfnlpajoikman.L15
