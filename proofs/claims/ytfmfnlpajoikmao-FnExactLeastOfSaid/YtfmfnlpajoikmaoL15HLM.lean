/-
  Where a name stands in a good Heavy. Nothing of the program's text is proved here.
-/
import Derived.Test.YtfmfnlpajoikmaoL15HSrch
namespace Go.Proofs.Ytfmfnlpajoikmao.L15H
open Go.RowKit L1 Own Str
set_option linter.unusedVariables false

theorem GoodHv.rise {h : Hv} {n m tk : Nat} (g : GoodHv h n m) (hk : IsTk h.nm n tk) : Rise h.nm tk := fun i j hij hj => by
  have step : ∀ q, q + 1 < tk → L3.Ahead (na h q) (na h (q + 1)) := fun q hq => by
    rcases g.p (q + 1) (by have := hk.le; omega) with ⟨h0, _⟩ | ⟨_, h1⟩
    · exact absurd h0 (hk.ne (q + 1) hq)
    · have := (h1 (by omega)).2
      rw [Nat.add_sub_cancel] at this
      exact this
  induction j with
  | zero => omega
  | succ j ih =>
    by_cases e : i = j
    · subst e; exact step i hj
    · exact ahead_trans (ih (by omega) (by omega)) (step j hj)
theorem ahead_irrefl (x : ByteArray) : ¬ L3.Ahead x x := by
  unfold L3.Ahead
  rw [L3.bl_irrefl]
  exact fun h => by cases h
/-- What is told of a name: its count, and the first place where it stands. -/
structure CntIs (h : Hv) (n : Nat) (s : ByteArray) (c : Int) : Prop where
  yes : ∀ i, i < n → na h i = s → c = ca h i
  no : (∀ i, i < n → na h i ≠ s) → c = 0
theorem cnt_ex {h : Hv} {n m tk : Nat} (g : GoodHv h n m) (hk : IsTk h.nm n tk) {s : ByteArray} (hs : s ≠ e0) : ∃ c, CntIs h n s c := by
  classical
  by_cases e : ∃ i, i < n ∧ na h i = s
  · obtain ⟨i, hi, e⟩ := e
    refine ⟨ca h i, fun j hj ej => ?_, fun q => absurd e (q i hi)⟩
    have lt : ∀ q, q < n → na h q = s → q < tk := fun q hq eq => by
      rcases Nat.lt_or_ge q tk with h1 | h1
      · exact h1
      · exact absurd (eq.symm.trans (g.tail hk q h1 hq).1) hs
    have hr := g.rise hk
    rcases Nat.lt_trichotomy i j with h1 | h1 | h1
    · have := hr i j h1 (lt j hj ej)
      rw [show h.nm.getD i e0 = s from e, show h.nm.getD j e0 = s from ej] at this
      exact absurd this (ahead_irrefl s)
    · rw [h1]
    · have := hr j i h1 (lt i hi e)
      rw [show h.nm.getD i e0 = s from e, show h.nm.getD j e0 = s from ej] at this
      exact absurd this (ahead_irrefl s)
  · exact ⟨0, fun i hi ei => absurd ⟨i, hi, ei⟩ e, fun _ => rfl⟩
theorem least_ex (h : Hv) (n m : Nat) (s : ByteArray) (G : Int) (ok : Bool) (hok : ok = true ↔ GoodHv h n m ∧ L3.Word false s) : ∃ x y : Int, (ok = true → CntIs h n s x ∧ y = x + G) ∧ (ok = false → x = 0 ∧ y = 0) := by
  cases ok with
  | true =>
    obtain ⟨g, hw⟩ := hok.1 rfl
    obtain ⟨tk, hk⟩ := tk_ex h.nm n
    obtain ⟨c, hc⟩ := cnt_ex g hk (word_ne hw)
    exact ⟨c, c + G, fun _ => ⟨hc, rfl⟩, fun q => (by cases q)⟩
  | false => exact ⟨0, 0, fun q => (by cases q), fun _ => ⟨rfl, rfl⟩⟩
end Go.Proofs.Ytfmfnlpajoikmao.L15H
