/-
  Numbers of events among those of their nodes. Nothing of the program's text is proved here.
-/
import Derived.Test.YtkfnejiiancmhahL11Good
import Derived.Test.YtkfnejiiancmhahArr
namespace Go.Proofs.Ytkfnejiiancmhah.L11
open Go.RowKit L1 Own
set_option linter.unusedVariables false

/-- The number of each event among those of its node. -/
def atL (l : List Ev) (k : Nat) : List Int := (List.range k).map fun j => cnt l (nd l j) (j + 1)
theorem atL_len (l : List Ev) (k : Nat) : (atL l k).length = k := by simp [atL]
theorem atL_succ (l : List Ev) (k : Nat) : atL l (k + 1) = atL l k ++ [cnt l (nd l k) (k + 1)] := by simp [atL, List.range_succ]
theorem atL_get (l : List Ev) (k i : Nat) (h : i < k) : (atL l k).getD i 0 = cnt l (nd l i) (i + 1) := by simp [atL, List.getD, h]
def cntN (l : List Ev) (k : Nat) : Nat → Int := fun i => cnt l (i : Int) k
theorem cntN_succ (l : List Ev) (k x : Nat) (hx : nd l k = (x : Int)) (i : Nat) : updI (cntN l k) x (cntN l k x + 1) i = cntN l (k + 1) i := by
  unfold updI cntN
  show _ = cnt l (i : Int) k + _
  by_cases e : i = x
  · subst e; rw [if_pos rfl, if_pos hx]
  · rw [if_neg e, if_neg (by omega)]; omega
theorem made_lA (n : Nat) : (madeCells (Value.int .i64 0).cells (n * 1)).toList = lA n (fun _ => 0) := by
  rw [made_ints]
  apply List.ext_getElem?
  intro j
  by_cases h : j < n
  · rw [lA_get n _ j h]; simp [h]
  · rw [List.getElem?_eq_none (by simp; omega), List.getElem?_eq_none (by simp [lA]; omega)]
theorem cell_oneA (w : World) (g : Nat) (hg : w.heap.size = g) (p : Value) (t : TypeId) : ∀ j u, [p][j]? = some u → (w.alloc (.cells #[p] t)).cell? ((⟨g, 0, none⟩ : Addr).add j) = some u := by
  subst hg
  intro j u h
  rw [addr_add]
  match j, h with
  | 0, h => simp at h; subst h; simp
  | j + 1, h => simp at h
theorem own_setA {w : World} {base n c : Nat} {t : TypeId} {v : Value} {xs : List Value} (h : w.ownsRow base t c v n xs) (g i : Nat) (u : Value) (hg : g < base) : (w.setCell ⟨g, i, none⟩ u).ownsRow base t c v n xs := by
  refine ⟨h.1, ?_⟩
  rcases h.2 with h0 | ⟨q, cap, cur, hv, hb, hh, rest⟩
  · exact .inl h0
  · exact .inr ⟨q, cap, cur, hv, hb, by rw [Below.heap_setCell w ⟨g, i, none⟩ u q (show q ≠ g by omega)]; exact hh, rest⟩
theorem arr_grownA {w w' : World} {t : TypeId} {n base g : Nat} {E : Nat → Int} {r : Option Nat} (h : Arr t n w base g E) (hg : w.grownBy w' r) (hne : r ≠ some g) : Arr t n w' base g E :=
  World.ownsRow.kept h hg (.inr (fun e => hne e.symm))
end Go.Proofs.Ytkfnejiiancmhah.L11
