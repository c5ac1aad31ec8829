/-
  How far the marks of a log go. Nothing of the program's text is proved here.
  Chunks of few entries begin at small places. Nothing of the program's text is proved here.
-/
import Derived.Test.YtapffbbmofhpoazDoorBundle4
import Derived.Test.YtapffbbmofhpoazDoorBundle2
namespace Go.Proofs.YtapffbbmofhpoazDoor.L6
open Go.RowKit L1
set_option linter.unusedVariables false

theorem kat_sz (L : List Pc) : ∀ i, i ≤ L.length → kat L i ≤ 1 + 2 * (i : Int) + (szc (L.take i) : Int)
  | 0, _ => by simp [kat, szc]
  | i + 1, hi => by
    have h1 := kat_sz L i (by omega)
    have h2 := szc_take L i (by omega)
    show kat L i + 2 + ((gc L i).x.length : Int) ≤ _
    have e : (gc L i).x.length = (L.getD i eC).x.length := rfl
    omega
theorem kat_few (L : List Pc) (h : L.length + szc L ≤ 1048576) : ∀ i, i ≤ L.length → kat L i ≤ 2147483648 := fun i hi => by
  have h1 := kat_sz L i hi
  have h2 := szc_le L i
  omega
end Go.Proofs.YtapffbbmofhpoazDoor.L6

namespace Go.Proofs.YtapffbbmofhpoazDoor.L6
open Go.RowKit L1
set_option linter.unusedVariables false

theorem kat_small (L : List Pc) (n : Nat) (h : ∀ i, i < n → (gc L i).x.length ≤ 60) : ∀ i, i ≤ n → kat L i ≤ 1 + 62 * (i : Int)
  | 0, _ => by simp [kat]
  | i + 1, hi => by
    have h1 := kat_small L n h i (by omega)
    have h2 := h i (by omega)
    show kat L i + 2 + ((gc L i).x.length : Int) ≤ _
    omega
end Go.Proofs.YtapffbbmofhpoazDoor.L6
