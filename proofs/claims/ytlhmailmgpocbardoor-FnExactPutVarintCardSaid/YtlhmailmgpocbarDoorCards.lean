/-
  DERIVED. GIVEN WITH THE SEED: THE CARDS: each row of YtlhmailmgpocbarDoorRows.lean that lists a variable, with what it lists TIED to the program's text (the seventh form; the later family's looks); each row that meets fmt, with fmt's text TOLD by the authors' own Lean function (tested against real Go, not proved from fmt's source: count such statements apart). THE CARD IS WHAT COUNTS. Prove the row's statement (the work); the ties are given (YtlhmailmgpocbarDoorTie.lean); close each card by the builder's one call (the guide's Derived/Test/ToyasCard.lean, 'card_holds'). Laid BY PROGRAM, IN A SANDBOX (cutbox-door.mjs). By AI agents, Wed Nov 11 2026. No macro, syntax, notation, axiom, sorry.
-/
import Derived.Test.YtlhmailmgpocbarDoorRows
import GoSem.ClaimSeven
namespace Go.Proofs.YtlhmailmgpocbarDoor
namespace Rows

/-- THE TIED CARD OF 'laws.FnExactPutVarint'. -/
def fnExactPutVarintCard : Claim7 := { stood := { row := fnExactPutVarintRow, standIns := [], harness := (true, "d1b5a70a663c058385bfa9a097876e1b57e85df6f0bf9f3fb4997cf64ea8ea0f"), looks := false }, kinds := [], alts := [], laidByText := true, laidKinds := [.data], laidTests := true, laidLooks := .later }
def FnExactPutVarintCardSaid : Prop := Claim7.holds Tryd.pinned (.plain (OpenSpec.ofChange fnExactPutVarintSpec)) fnExactPutVarintCard

/-- THE SECOND FORM's CARD OF 'laws.FnExactPutVarint'. -/
def fnExactPutVarintUptoCard : Claim7 := { stood := { row := fnExactPutVarintUptoRow, standIns := [], harness := (true, "d1b5a70a663c058385bfa9a097876e1b57e85df6f0bf9f3fb4997cf64ea8ea0f"), looks := false }, kinds := [], alts := [], laidByText := true, laidKinds := [.data], laidTests := true, laidLooks := .later }
def FnExactPutVarintUptoCardSaid : Prop := Claim7.holds Tryd.pinned (.plain (OpenSpec.upto fnExactPutVarintSpec)) fnExactPutVarintUptoCard
end Rows
end Go.Proofs.YtlhmailmgpocbarDoor
