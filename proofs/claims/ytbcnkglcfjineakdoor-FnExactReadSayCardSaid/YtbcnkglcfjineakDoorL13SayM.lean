/-
  A say as a text. Nothing of the program's text is proved here.
-/
import Derived.Test.YtbcnkglcfjineakDoorL13Num
namespace Go.Proofs.YtbcnkglcfjineakDoor.L13
open Go.RowKit L1
set_option linter.unusedVariables false

def sayT (s : ByteArray) (x y : Int) : ByteArray := (((s ++ ⟨#[32]⟩) ++ numT x) ++ ⟨#[32]⟩) ++ numT y
end Go.Proofs.YtbcnkglcfjineakDoor.L13
