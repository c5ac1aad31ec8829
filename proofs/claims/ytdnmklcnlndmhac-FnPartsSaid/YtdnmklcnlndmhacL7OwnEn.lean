/-
  Lists that were drawn, as slices.
-/
import Derived.Test.YtdnmklcnlndmhacL7DrawF
namespace Go.Proofs.Ytdnmklcnlndmhac.L7
open Go.RowKit L1
set_option linter.unusedVariables false

theorem own_en {w : World} {B m : Nat} {v : Value} {M : Int} (h : OwnEn w B v m M) : ∃ (l : List En) (a : Option Addr) (n cap : Nat), v = .slice a n cap ∧ l.length = n ∧ n ≤ m ∧ (∀ j, j < l.length → (l.getD j eE).2.size ≤ 9223372036854775807) ∧ n ≤ cap ∧ (a = none → cap = 0) ∧ SlE w a l := by
  obtain ⟨l, h1, h2, h3⟩ := h
  obtain ⟨a, cap, rfl, hc, h0⟩ := own_shape7 h3
  exact ⟨l, a, _, cap, rfl, rfl, h1, en_sizes h2, hc, h0, own_slE h3⟩
theorem own_st {w : World} {B m : Nat} {v : Value} (h : OwnSt w B v m) : ∃ (l : List (Int × Int)) (a : Option Addr) (n cap : Nat), v = .slice a n cap ∧ l.length = n ∧ n ≤ m ∧ SlS w a l := by
  obtain ⟨l, h1, h3⟩ := h
  obtain ⟨a, cap, rfl, s, _⟩ := own_formS h3
  exact ⟨l, a, _, cap, rfl, rfl, h1, s⟩
end Go.Proofs.Ytdnmklcnlndmhac.L7
