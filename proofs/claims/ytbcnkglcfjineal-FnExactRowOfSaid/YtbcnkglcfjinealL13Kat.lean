/-
  How far the marks of a head go. Nothing of the program's text is proved here.
-/
import Derived.Test.YtbcnkglcfjinealL13Mark
import Derived.Test.YtbcnkglcfjinealL13Size
namespace Go.Proofs.Ytbcnkglcfjineal.L13
open Go.RowKit L1
set_option linter.unusedVariables false

theorem katR_sz (L : List Rw) : ∀ i, i ≤ L.length → katR L i ≤ 1 + (i : Int) + 2 * (szr (L.take i) : Int)
  | 0, _ => by simp [katR, szr]
  | i + 1, hi => by
    have h1 := katR_sz L i (by omega)
    have h2 := szr_take L i (by omega)
    show katR L i + 1 + 2 * ((gr L i).l.length : Int) ≤ _
    have e : (gr L i).l.length = (L.getD i eR).l.length := rfl
    omega
theorem katR_few (L : List Rw) (h : L.length + szr L ≤ 1048576) : ∀ i, i ≤ L.length → katR L i ≤ 2147483648 := fun i hi => by
  have h1 := katR_sz L i hi
  have h2 := szr_le L i
  omega
end Go.Proofs.Ytbcnkglcfjineal.L13
