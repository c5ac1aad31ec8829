/-
  What is told of a range is told of its parts. Nothing of the program's text is proved here.
-/
import Derived.Test.YtapffbbmofhpoaaDoorL2Range
import Derived.Test.YtapffbbmofhpoaaDoorL2EncMath
import Derived.Test.YtapffbbmofhpoaaDoorL1Same
namespace Go.Proofs.YtapffbbmofhpoaaDoor.L1
open Go.RowKit
set_option linter.unusedVariables false

theorem goodS_up {l : List (Int × Int)} (h : GoodS l) : l.Pairwise fun p q => p.1 ≤ q.1 := by
  have key : ∀ i j, i < j → j < l.length → (l.getD i (0, 0)).1 < (l.getD j (0, 0)).1 := by
    intro i j hij
    induction j with
    | zero => omega
    | succ j ih =>
      intro hj
      have h1 := (h.2 (j + 1) hj).2 (by omega)
      simp only [Nat.add_sub_cancel] at h1
      by_cases e : i = j
      · subst e; exact h1
      · have := ih (by omega) (by omega); omega
  rw [List.pairwise_iff_getElem]
  intro i j hi hj hij
  have := key i j hij hj
  simp only [List.getD, List.getElem?_eq_getElem hi, List.getElem?_eq_getElem hj, Option.getD_some] at this
  omega
theorem rg_none {fr mid : Int} : ∀ {l : List (Int × Int)}, (∀ q ∈ l, mid ≤ q.1) → rg fr mid l = [] := fun h => by
  unfold rg
  rw [List.filter_eq_nil_iff]
  intro q hq
  have := h q hq
  simp
  omega
theorem rg_parts {fr mid to : Int} (h1 : fr ≤ mid) (h2 : mid ≤ to) : ∀ {l : List (Int × Int)}, (l.Pairwise fun p q => p.1 ≤ q.1) → rg fr mid l ++ rg mid to l = rg fr to l
  | [], _ => rfl
  | p :: l, h => by
    have ih := rg_parts h1 h2 (List.pairwise_cons.1 h).2
    have hp := (List.pairwise_cons.1 h).1
    by_cases c1 : p.1 < mid
    · have e1 : rg mid to (p :: l) = rg mid to l := by unfold rg; rw [List.filter_cons_of_neg (by simp; omega)]
      by_cases c2 : fr ≤ p.1
      · have e2 : rg fr mid (p :: l) = p :: rg fr mid l := by unfold rg; rw [List.filter_cons_of_pos (by simp; omega)]
        have e3 : rg fr to (p :: l) = p :: rg fr to l := by unfold rg; rw [List.filter_cons_of_pos (by simp; omega)]
        rw [e1, e2, e3, List.cons_append, ih]
      · have e2 : rg fr mid (p :: l) = rg fr mid l := by unfold rg; rw [List.filter_cons_of_neg (by simp; omega)]
        have e3 : rg fr to (p :: l) = rg fr to l := by unfold rg; rw [List.filter_cons_of_neg (by simp; omega)]
        rw [e1, e2, e3, ih]
    · have e0 : rg fr mid (p :: l) = [] := rg_none (fun q hq => by
        rcases List.mem_cons.1 hq with rfl | hq
        · omega
        · have := hp q hq; omega)
      have e9 : rg fr mid l = [] := rg_none (fun q hq => by have := hp q hq; omega)
      rw [e9, List.nil_append] at ih
      rw [e0, List.nil_append]
      by_cases c2 : p.1 < to
      · have e1 : rg mid to (p :: l) = p :: rg mid to l := by unfold rg; rw [List.filter_cons_of_pos (by simp; omega)]
        have e3 : rg fr to (p :: l) = p :: rg fr to l := by unfold rg; rw [List.filter_cons_of_pos (by simp; omega)]
        rw [e1, e3, ih]
      · have e1 : rg mid to (p :: l) = rg mid to l := by unfold rg; rw [List.filter_cons_of_neg (by simp; omega)]
        have e3 : rg fr to (p :: l) = rg fr to l := by unfold rg; rw [List.filter_cons_of_neg (by simp; omega)]
        rw [e1, e3, ih]
theorem dec_enc2 {l : List (Int × Int)} (h : GoodS l) : dcRes (bts (strOfNums (cat (nums l))) 0) = some l := by
  rw [bts_str _ (cat_bytes _ (okL_mem' (okL_nums h))), dcRes_cat h]
theorem enc_size2 {l : List (Int × Int)} (h : GoodS l) : (cat (nums l)).length ≤ 486 := by
  have h1 := cat_len (nums l)
  have h2 := nums_len l
  have := h.1
  omega
end Go.Proofs.YtapffbbmofhpoaaDoor.L1
