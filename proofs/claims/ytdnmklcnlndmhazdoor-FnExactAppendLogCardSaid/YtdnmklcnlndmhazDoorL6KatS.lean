/-
  Chunks of few entries begin at small places. Nothing of the program's text is proved here.
-/
import Derived.Test.YtdnmklcnlndmhazDoorL6Marks
namespace Go.Proofs.YtdnmklcnlndmhazDoor.L6
open Go.RowKit L1
set_option linter.unusedVariables false

theorem kat_small (L : List Pc) (n : Nat) (h : ∀ i, i < n → (gc L i).x.length ≤ 60) : ∀ i, i ≤ n → kat L i ≤ 1 + 62 * (i : Int)
  | 0, _ => by simp [kat]
  | i + 1, hi => by
    have h1 := kat_small L n h i (by omega)
    have h2 := h i (by omega)
    show kat L i + 2 + ((gc L i).x.length : Int) ≤ _
    omega
end Go.Proofs.YtdnmklcnlndmhazDoor.L6
