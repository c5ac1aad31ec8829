/-
  What TearEnd answers is small. Nothing of the program's text is proved here.
-/
import Derived.Test.YtkjogjjfpjkeobaDoorL6Tear
import Derived.Test.YtkjogjjfpjkeobaDoorL6Marks
namespace Go.Proofs.YtkjogjjfpjkeobaDoor.L6
open Go.RowKit L1
set_option linter.unusedVariables false

theorem kat_small (L : List Pc) (n : Nat) (h : ∀ i, i < n → (gc L i).x.length ≤ 60) : ∀ i, i ≤ n → kat L i ≤ 1 + 62 * (i : Int)
  | 0, _ => by simp [kat]
  | i + 1, hi => by
    have h1 := kat_small L n h i (by omega)
    have h2 := h i (by omega)
    show kat L i + 2 + ((gc L i).x.length : Int) ≤ _
    omega
open Classical in
theorem TearIs.few {L L' : List Pc} {B b B' left : Int} {ok : Bool} (h : TearIs L B b L' B' left ok) : L'.length ≤ 20 ∧ ∀ i, i < L'.length → (gc L' i).x.length ≤ 60 := by
  by_cases ht : TearOk L B b
  · obtain ⟨_, rfl, _, _⟩ := h.yes ht
    have hg := ht.1
    have h1 := hg.one
    refine ⟨by simpa using hg.many, fun i hi => ?_⟩
    have hi' : i < L.length := by simpa using hi
    by_cases e : i = L.length - 1
    · subst e
      have e2 : gc (L.set (L.length - 1) (tornP (lastP L) b)) (L.length - 1) = tornP (lastP L) b := by
        have : L.length - 1 < L.length := by omega
        simp [gc, List.getD, this]
      rw [e2]
      have hgd := tornP_good b (hg.ps (L.length - 1) (by omega)).1
      have h2 := good_cnt hgd
      have h3 := hgd.2.2
      show (tornP (gc L (L.length - 1)) b).x.length ≤ 60
      rw [h3]
      unfold ix
      rw [ixk_len]
      omega
    · have e2 : gc (L.set (L.length - 1) (tornP (lastP L) b)) i = gc L i := by simp [gc, List.getD, List.getElem?_set_ne (Ne.symm e)]
      rw [e2]
      exact hg.small rfl i hi'
  · obtain ⟨_, rfl, _, _⟩ := h.no ht
    exact ⟨Nat.zero_le _, fun i hi => absurd hi (Nat.not_lt_zero _)⟩
end Go.Proofs.YtkjogjjfpjkeobaDoor.L6
