/-
  DERIVED. GIVEN WITH THE SEED: THE CARDS: each row of YtphkbnlappbjeatDoorRows.lean that lists a variable, with what it lists TIED to the program's text (the seventh form; the later family's looks); each row that meets fmt, with fmt's text TOLD by the authors' own Lean function (tested against real Go, not proved from fmt's source: count such statements apart). THE CARD IS WHAT COUNTS. Prove the row's statement (the work); the ties are given (YtphkbnlappbjeatDoorTie.lean); close each card by the builder's one call (the guide's Derived/Test/ToyasCard.lean, 'card_holds'). Laid BY PROGRAM, IN A SANDBOX (cutbox-door.mjs). By AI agents, Wed Nov 11 2026. No macro, syntax, notation, axiom, sorry.
-/
import Derived.Test.YtphkbnlappbjeatDoorRows
import GoSem.ClaimSeven
namespace Go.Proofs.YtphkbnlappbjeatDoor
namespace Rows

/-- THE TIED CARD OF 'laws.FnExactEncodeChunk'. -/
def fnExactEncodeChunkCard : Claim7 := { stood := { row := fnExactEncodeChunkRow, standIns := [], harness := (true, "bdac8081713687035119746b8e7db2d896e40e499e81c1ebb62de71accbf0468"), looks := false }, kinds := [], alts := [], laidByText := true, laidKinds := [.data], laidTests := true, laidLooks := .later }
def FnExactEncodeChunkCardSaid : Prop := Claim7.holds Tryd.pinned (.plain (OpenSpec.ofChange fnExactEncodeChunkSpec)) fnExactEncodeChunkCard

/-- THE TIED CARD OF 'laws.FnExactDecodeChunk'. -/
def fnExactDecodeChunkCard : Claim7 := { stood := { row := fnExactDecodeChunkRow, standIns := [], harness := (true, "bdac8081713687035119746b8e7db2d896e40e499e81c1ebb62de71accbf0468"), looks := false }, kinds := [], alts := [], laidByText := true, laidKinds := [.data], laidTests := true, laidLooks := .later }
def FnExactDecodeChunkCardSaid : Prop := Claim7.holds Tryd.pinned (.plain (OpenSpec.ofChange fnExactDecodeChunkSpec)) fnExactDecodeChunkCard

/-- THE TIED CARD OF 'laws.FnExactAppendChunk'. -/
def fnExactAppendChunkCard : Claim7 := { stood := { row := fnExactAppendChunkRow, standIns := [], harness := (true, "bdac8081713687035119746b8e7db2d896e40e499e81c1ebb62de71accbf0468"), looks := false }, kinds := [], alts := [], laidByText := true, laidKinds := [.data], laidTests := true, laidLooks := .later }
def FnExactAppendChunkCardSaid : Prop := Claim7.holds Tryd.pinned (.plain (OpenSpec.ofChange fnExactAppendChunkSpec)) fnExactAppendChunkCard

/-- THE SECOND FORM's CARD OF 'laws.FnExactEncodeChunk'. -/
def fnExactEncodeChunkUptoCard : Claim7 := { stood := { row := fnExactEncodeChunkUptoRow, standIns := [], harness := (true, "bdac8081713687035119746b8e7db2d896e40e499e81c1ebb62de71accbf0468"), looks := false }, kinds := [], alts := [], laidByText := true, laidKinds := [.data], laidTests := true, laidLooks := .later }
def FnExactEncodeChunkUptoCardSaid : Prop := Claim7.holds Tryd.pinned (.plain (OpenSpec.upto fnExactEncodeChunkSpec)) fnExactEncodeChunkUptoCard

/-- THE SECOND FORM's CARD OF 'laws.FnExactDecodeChunk'. -/
def fnExactDecodeChunkUptoCard : Claim7 := { stood := { row := fnExactDecodeChunkUptoRow, standIns := [], harness := (true, "bdac8081713687035119746b8e7db2d896e40e499e81c1ebb62de71accbf0468"), looks := false }, kinds := [], alts := [], laidByText := true, laidKinds := [.data], laidTests := true, laidLooks := .later }
def FnExactDecodeChunkUptoCardSaid : Prop := Claim7.holds Tryd.pinned (.plain (OpenSpec.upto fnExactDecodeChunkSpec)) fnExactDecodeChunkUptoCard

/-- THE SECOND FORM's CARD OF 'laws.FnExactAppendChunk'. -/
def fnExactAppendChunkUptoCard : Claim7 := { stood := { row := fnExactAppendChunkUptoRow, standIns := [], harness := (true, "bdac8081713687035119746b8e7db2d896e40e499e81c1ebb62de71accbf0468"), looks := false }, kinds := [], alts := [], laidByText := true, laidKinds := [.data], laidTests := true, laidLooks := .later }
def FnExactAppendChunkUptoCardSaid : Prop := Claim7.holds Tryd.pinned (.plain (OpenSpec.upto fnExactAppendChunkSpec)) fnExactAppendChunkUptoCard
end Rows
end Go.Proofs.YtphkbnlappbjeatDoor
