/-
  Plain mathematics: the cut of an event. Nothing of Go stands here.
-/
import Derived.Test.YtkfnejiiancmhaiL11Math
namespace Go.Proofs.Ytkfnejiiancmhai.L11
set_option linter.unusedVariables false

theorem cnt_at (l : List Ev) (x : Int) (c : Int) : ∀ m : Nat, 1 ≤ c → c ≤ cnt l x m → ∃ i, i < m ∧ nd l i = x ∧ cnt l x (i + 1) = c
  | 0, h1, h2 => by simp [cnt] at h2; omega
  | m + 1, h1, h2 => by
    by_cases h : c ≤ cnt l x m
    · obtain ⟨i, hi, r⟩ := cnt_at l x c m h1 h
      exact ⟨i, by omega, r⟩
    · have h3 : cnt l x (m + 1) = cnt l x m + if nd l m = x then 1 else 0 := rfl
      by_cases e : nd l m = x
      · rw [if_pos e] at h3
        exact ⟨m, by omega, e, by omega⟩
      · rw [if_neg e] at h3
        omega
/-- The greatest numbers of the first events of a list, node by node. -/
def gx (l : List Ev) (ys : List Int) : Nat → Int → Int
  | 0, _ => 0
  | j + 1, x => if nd l (ys.getD j 0).toNat = x ∧ gx l ys j x < cnt l x ((ys.getD j 0).toNat + 1) then cnt l x ((ys.getD j 0).toNat + 1) else gx l ys j x
theorem gx_nn (l : List Ev) (ys : List Int) (x : Int) : ∀ j, 0 ≤ gx l ys j x
  | 0 => by simp [gx]
  | j + 1 => by
    have := gx_nn l ys x j
    unfold gx
    split <;> omega
theorem gx_mono (l : List Ev) (ys : List Int) (x : Int) (j : Nat) : gx l ys j x ≤ gx l ys (j + 1) x := by
  show _ ≤ if _ then _ else _
  split <;> omega
theorem gx_ge (l : List Ev) (ys : List Int) (x : Int) (i : Nat) : ∀ j, i < j → nd l (ys.getD i 0).toNat = x → cnt l x ((ys.getD i 0).toNat + 1) ≤ gx l ys j x
  | 0, h, _ => by omega
  | j + 1, h, e => by
    by_cases hij : i = j
    · subst hij
      unfold gx
      split
      · omega
      · rename_i h2
        have : ¬ gx l ys i x < cnt l x ((ys.getD i 0).toNat + 1) := fun h3 => h2 ⟨e, h3⟩
        omega
    · exact Int.le_trans (gx_ge l ys x i j (by omega) e) (gx_mono l ys x j)
theorem gx_le (l : List Ev) (ys : List Int) (x B : Int) (h0 : 0 ≤ B) : ∀ j, j ≤ ys.length → (∀ i, i < ys.length → nd l (ys.getD i 0).toNat = x → cnt l x ((ys.getD i 0).toNat + 1) ≤ B) → gx l ys j x ≤ B
  | 0, _, _ => by simp [gx]; exact h0
  | j + 1, hj, h => by
    have ih := gx_le l ys x B h0 j (by omega) h
    unfold gx
    split
    · rename_i h2; exact h j (by omega) h2.1
    · exact ih
theorem gx_bd (l : List Ev) (ys : List Int) (x : Int) (n : Nat) (h : ∀ i, i < ys.length → (ys.getD i 0).toNat < n) (j : Nat) (hj : j ≤ ys.length) : gx l ys j x ≤ (n : Int) := by
  refine gx_le l ys x (n : Int) (by omega) j hj (fun i hi _ => ?_)
  have h1 := cnt_le l x ((ys.getD i 0).toNat + 1)
  have h2 := h i hi
  omega
/-- Of an event and all that came first for it: its clock. -/
theorem gx_clk (l : List Ev) (xs : List Int) (k : Nat) (hm : ∀ p : Nat, (p : Int) ∈ xs ↔ Anc l p k) (hp : ∀ x ∈ xs, ∃ p : Nat, x = (p : Int) ∧ Anc l p k) (x : Int) : gx l (xs ++ [(k : Int)]) (xs.length + 1) x = clk l k x := by
  have hget : ∀ i, i < (xs ++ [(k : Int)]).length → ∃ p : Nat, (xs ++ [(k : Int)]).getD i 0 = (p : Int) ∧ (p = k ∨ Anc l p k) := fun i hi => by
    by_cases h : i < xs.length
    · have e : (xs ++ [(k : Int)]).getD i 0 = xs.getD i 0 := by simp [List.getD, List.getElem?_append_left h]
      rw [e]
      have hmem : xs.getD i 0 ∈ xs := by simp only [List.getD, List.getElem?_eq_getElem h, Option.getD_some]; exact List.getElem_mem h
      obtain ⟨p, e2, ha⟩ := hp _ hmem
      exact ⟨p, e2, .inr ha⟩
    · have hi2 : i = xs.length := by simp at hi; omega
      subst hi2
      exact ⟨k, by simp [List.getD], .inl rfl⟩
  apply Int.le_antisymm
  · refine gx_le l _ x _ (clk_nn l k x) _ (by simp) (fun i hi hx => ?_)
    obtain ⟨p, e, h⟩ := hget i hi
    rw [e] at hx ⊢
    have hpt : (p : Int).toNat = p := rfl
    rw [hpt] at hx ⊢
    rw [← hx, ← clk_own]
    rcases h with rfl | h
    · exact Int.le_refl _
    · exact h.le _
  · by_cases h1 : 1 ≤ clk l k x
    · obtain ⟨i, hi, hx, hc⟩ := cnt_at l x (clk l k x) (k + 1) h1 (clk_le l k x)
      have ha : i = k ∨ Anc l i k := anc_of l k i (by rw [hx, hc]; exact Int.le_refl _)
      have hmem : (i : Int) ∈ xs ++ [(k : Int)] := by
        rcases ha with rfl | ha
        · simp
        · exact List.mem_append.2 (.inl ((hm i).2 ha))
      obtain ⟨j, hj, ej⟩ := List.getElem_of_mem hmem
      have eg : (xs ++ [(k : Int)]).getD j 0 = (i : Int) := by simp only [List.getD, List.getElem?_eq_getElem hj, Option.getD_some]; exact ej
      have := gx_ge l (xs ++ [(k : Int)]) x j (xs.length + 1) (by simpa using hj) (by rw [eg]; exact hx)
      rw [eg] at this
      rw [← hc]
      exact this
    · have := gx_nn l (xs ++ [(k : Int)]) x (xs.length + 1)
      omega
end Go.Proofs.Ytkfnejiiancmhai.L11
