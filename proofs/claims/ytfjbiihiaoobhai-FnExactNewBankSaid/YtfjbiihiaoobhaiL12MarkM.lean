/-
  What a marked bank holds. Nothing of the program's text is proved here.
-/
import Derived.Test.YtfjbiihiaoobhaiL12GMath
import Derived.Test.YtfjbiihiaoobhaiL12BoolMk
import Derived.Test.YtfjbiihiaoobhaiL4IntHeld
import Derived.Deep.DeepCutAuto
namespace Go.Proofs.Ytfjbiihiaoobhai.L12
open Go.RowKit L1 L4 L9 Own Sli
set_option linter.unusedVariables false

/-- How many elements the first rows have. -/
def pre {α : Type} (G : List (List α)) : Nat → Nat
  | 0 => 0
  | j + 1 => pre G j + (G.getD j []).length
theorem pre_mono {α : Type} (G : List (List α)) : ∀ j k, j ≤ k → pre G j ≤ pre G k
  | j, 0, h => by have : j = 0 := by omega
                  subst this; exact Nat.le_refl _
  | j, k + 1, h => by
    by_cases e : j = k + 1
    · subst e; exact Nat.le_refl _
    · have := pre_mono G j k (by omega)
      simp only [pre]
      omega
section
variable {α : Type} (mk : Int → Nat → List α) (hmk : ∀ c n, (mk c n).length = n)
def mkUp (c : Int) (G : List (List α)) (j : Nat) : List (List α) := (List.range G.length).map fun i => if i < j then mk (c + (pre G i : Int)) (G.getD i []).length else G.getD i []
theorem mkUp_len (c : Int) (G : List (List α)) (j : Nat) : (mkUp mk c G j).length = G.length := by simp [mkUp]
theorem mkUp_get (c : Int) (G : List (List α)) (j i : Nat) (hi : i < G.length) : (mkUp mk c G j).getD i [] = if i < j then mk (c + (pre G i : Int)) (G.getD i []).length else G.getD i [] := by
  simp [mkUp, List.getD, hi]
include hmk in
theorem mkUp_gl (c : Int) (G : List (List α)) (j i : Nat) (hi : i < G.length) : ((mkUp mk c G j).getD i []).length = (G.getD i []).length := by
  rw [mkUp_get mk c G j i hi]
  split
  · rw [hmk]
  · rfl
theorem listSS_same {X Y : List (List α)} (h1 : X.length = Y.length) (h : ∀ i, i < X.length → X.getD i [] = Y.getD i []) : X = Y := by
  apply List.ext_getElem?
  intro j
  by_cases hj : j < X.length
  · have h := h j hj
    simp only [List.getD, List.getElem?_eq_getElem hj, List.getElem?_eq_getElem (show j < Y.length by omega), Option.getD_some] at h
    rw [List.getElem?_eq_getElem hj, List.getElem?_eq_getElem (show j < Y.length by omega), h]
  · rw [List.getElem?_eq_none (by omega), List.getElem?_eq_none (by omega)]
theorem mkUp_zero (c : Int) (G : List (List α)) : mkUp mk c G 0 = G := listSS_same (mkUp_len mk c G 0) fun i hi => by
  rw [mkUp_len] at hi
  rw [mkUp_get mk c G 0 i hi, if_neg (by omega)]
theorem mkUp_succ (c : Int) (G : List (List α)) (j : Nat) (hj : j < G.length) : mkUp mk c G (j + 1) = (mkUp mk c G j).set j (mk (c + (pre G j : Int)) (G.getD j []).length) := listSS_same (by simp [mkUp_len]) fun i hi => by
  rw [mkUp_len] at hi
  rw [mkUp_get mk c G (j + 1) i hi, getD_setL _ _ _ _ _ (by rw [mkUp_len]; exact hj), mkUp_get mk c G j i hi]
  by_cases e : i = j
  · subst e
    rw [if_pos (by omega), if_pos rfl]
  · rw [if_neg e]
    by_cases h : i < j
    · rw [if_pos h, if_pos (by omega)]
    · rw [if_neg h, if_neg (by omega)]
end
structure SmS {α : Type} (G : List (List α)) : Prop where
  n : G.length ≤ 1048576
  p : pre G G.length ≤ 1048576
  s : ∀ i, i < G.length → (G.getD i []).length ≤ 1048576
structure SmB (m : Bk) : Prop where
  c : m.c.length ≤ 1048576
  W : SmS m.W
  k : m.k.length ≤ 1048576
  H : SmS m.H
  F : SmS m.F
abbrev k1 (m : Bk) : Int := 1 + (m.c.length : Int)
abbrev k2 (m : Bk) : Int := k1 m + (pre m.W m.W.length : Int)
abbrev k3 (m : Bk) : Int := k2 m + (m.k.length : Int)
abbrev k4 (m : Bk) : Int := k3 m + (pre m.H m.H.length : Int)
abbrev k5 (m : Bk) : Int := k4 m + (pre m.F m.F.length : Int)
abbrev g1 (m : Bk) : Bk := { m with c := mkC 1 m.c.length }
abbrev g2 (m : Bk) : Bk := { m with c := mkC 1 m.c.length, W := mkUp mkC (k1 m) m.W m.W.length }
abbrev g3 (m : Bk) : Bk := { m with c := mkC 1 m.c.length, W := mkUp mkC (k1 m) m.W m.W.length, k := mkC (k2 m) m.k.length }
abbrev g4 (m : Bk) : Bk := { m with c := mkC 1 m.c.length, W := mkUp mkC (k1 m) m.W m.W.length, k := mkC (k2 m) m.k.length, H := mkUp mkB (k3 m) m.H m.H.length }
abbrev g5 (m : Bk) : Bk := { m with c := mkC 1 m.c.length, W := mkUp mkC (k1 m) m.W m.W.length, k := mkC (k2 m) m.k.length, H := mkUp mkB (k3 m) m.H m.H.length, F := mkUp mkC (k4 m) m.F m.F.length }
end Go.Proofs.Ytfjbiihiaoobhai.L12
