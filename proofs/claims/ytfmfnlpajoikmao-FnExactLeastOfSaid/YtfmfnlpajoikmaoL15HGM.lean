/-
  What is good of a Heavy. Nothing of the program's text is proved here.
-/
import Derived.Test.YtfmfnlpajoikmaoL15HMem
import Derived.Test.YtfmfnlpajoikmaoL3WordB
namespace Go.Proofs.Ytfmfnlpajoikmao.L15H
open Go.RowKit L1 Own Str
set_option linter.unusedVariables false

theorem dec_exH (p : Prop) : ∃ b : Bool, b = true ↔ p := by classical exact ⟨decide p, by simp⟩
theorem bool_noG {b : Bool} {p : Prop} (h : b = true ↔ p) (hp : ¬ p) : b = false := by
  cases b with
  | true => exact absurd (h.1 rfl) hp
  | false => rfl
/-- The first numbers together. -/
def sm (l : List Int) : Nat → Int
  | 0 => 0
  | k + 1 => sm l k + l.getD k 0
theorem sm_bd {l : List Int} : ∀ k, (∀ j, j < k → 0 ≤ l.getD j 0 ∧ l.getD j 0 ≤ 100000) → 0 ≤ sm l k ∧ sm l k ≤ 100000 * (k : Int)
  | 0, _ => by simp [sm]
  | k + 1, h => by
    have h1 := sm_bd k (fun j hj => h j (by omega))
    have h2 := h k (by omega)
    simp only [sm]
    rw [show ((k + 1 : Nat) : Int) = (k : Int) + 1 by omega]
    omega
abbrev na (h : Hv) (i : Nat) : ByteArray := h.nm.getD i e0
abbrev ca (h : Hv) (i : Nat) : Int := h.ct.getD i 0
/-- A place is good: empty, or a name behind a name that comes ahead of it. -/
def PlOk (h : Hv) (i : Nat) : Prop := (na h i = e0 ∧ ca h i = 0) ∨ ((L3.Word false (na h i) ∧ 1 ≤ ca h i ∧ ca h i ≤ 100000) ∧ (0 < i → na h (i - 1) ≠ e0 ∧ L3.Ahead (na h (i - 1)) (na h i)))
/-- A good Heavy. -/
structure GoodHv (h : Hv) (n m : Nat) : Prop where
  n1 : 1 ≤ n
  n6 : n ≤ 6
  m : m = n
  g0 : 0 ≤ h.g
  g1 : h.g ≤ 100000
  p : ∀ i, i < n → PlOk h i
  t : h.t = sm h.ct n + h.g * ((n : Int) + 1)
  t1 : h.t ≤ 1000000
theorem word_ne {s : ByteArray} (h : L3.Word false s) : s ≠ e0 := fun e => by
  have := h.1.1
  rw [e] at this
  exact absurd this (by decide)
theorem PlOk.ct {h : Hv} {i : Nat} (k : PlOk h i) : 0 ≤ ca h i ∧ ca h i ≤ 100000 := by
  rcases k with ⟨_, h0⟩ | ⟨⟨_, h1, h2⟩, _⟩ <;> omega
theorem mul_bd {G : Int} {n : Nat} (g0 : 0 ≤ G) (g1 : G ≤ 100000) (n6 : n ≤ 6) : 0 ≤ G * ((n : Int) + 1) ∧ G * ((n : Int) + 1) ≤ 700000 := by
  have h1 : 0 ≤ G * ((n : Int) + 1) := Int.mul_nonneg g0 (by omega)
  have h2 : G * ((n : Int) + 1) ≤ 100000 * 7 := Int.mul_le_mul g1 (by omega) (by omega) (by omega)
  omega
theorem GoodHv.t0 {h : Hv} {n m : Nat} (k : GoodHv h n m) : 0 ≤ h.t := by
  have h1 := sm_bd (l := h.ct) n (fun j hj => (k.p j hj).ct)
  have h2 := mul_bd k.g0 k.g1 k.n6
  rw [k.t]
  omega
/-- How many names stand ahead of the first empty one. -/
structure IsTk (l : List ByteArray) (n k : Nat) : Prop where
  le : k ≤ n
  ne : ∀ j, j < k → l.getD j e0 ≠ e0
  emp : k < n → l.getD k e0 = e0
theorem tk_ex (l : List ByteArray) : ∀ n, ∃ k, IsTk l n k
  | 0 => ⟨0, Nat.le_refl _, fun j hj => absurd hj (Nat.not_lt_zero _), fun h => absurd h (Nat.lt_irrefl _)⟩
  | n + 1 => by
    obtain ⟨k, h1, h2, h3⟩ := tk_ex l n
    by_cases e : k < n
    · exact ⟨k, by omega, h2, fun _ => h3 e⟩
    · obtain rfl : k = n := by omega
      by_cases e2 : l.getD k e0 = e0
      · exact ⟨k, by omega, h2, fun _ => e2⟩
      · exact ⟨k + 1, Nat.le_refl _, fun j hj => by
          by_cases e3 : j = k
          · subst e3; exact e2
          · exact h2 j (by omega), fun h => absurd h (Nat.lt_irrefl _)⟩
/-- In a good one all are empty behind the first empty one. -/
theorem GoodHv.tail {h : Hv} {n m k : Nat} (g : GoodHv h n m) (hk : IsTk h.nm n k) : ∀ j, k ≤ j → j < n → na h j = e0 ∧ ca h j = 0
  | 0, h1, h2 => by
    obtain rfl : k = 0 := by omega
    have h3 := hk.emp h2
    rcases g.p 0 h2 with h4 | ⟨⟨h4, _⟩, _⟩
    · exact h4
    · exact absurd h3 (word_ne h4)
  | j + 1, h1, h2 => by
    rcases g.p (j + 1) h2 with h4 | ⟨⟨h4, _⟩, h5⟩
    · exact h4
    · by_cases e : k = j + 1
      · subst e
        exact absurd (hk.emp h2) (word_ne h4)
      · have h6 := g.tail hk j (by omega) (by omega)
        exact absurd h6.1 (h5 (by omega)).1
theorem ptr_eq {x y : ByteArray} : x.toList = y.toList ↔ x = y := by
  constructor
  · intro h
    apply ByteArray.ext
    apply Array.toList_inj.1
    rw [← ByteArray.toList_eq, ← ByteArray.toList_eq, h]
  · rintro rfl
    rfl
theorem ne_list {x : ByteArray} (h : x ≠ e0) : x.toList.isEmpty = false := by
  cases e : x.toList.isEmpty with
  | false => rfl
  | true =>
    have h1 : x.toList = [] := List.isEmpty_iff.1 e
    have h2 : e0.toList = [] := by
      rw [ByteArray.toList_eq]
      rfl
    exact absurd (ptr_eq.1 (h1.trans h2.symm)) h
end Go.Proofs.Ytfmfnlpajoikmao.L15H
