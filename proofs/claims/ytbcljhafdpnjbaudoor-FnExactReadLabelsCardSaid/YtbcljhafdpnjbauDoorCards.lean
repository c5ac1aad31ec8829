/-
  DERIVED. GIVEN WITH THE SEED: THE CARDS: each row of YtbcljhafdpnjbauDoorRows.lean that lists a variable, with what it lists TIED to the program's text (the seventh form; the later family's looks); each row that meets fmt, with fmt's text TOLD by the authors' own Lean function (tested against real Go, not proved from fmt's source: count such statements apart). THE CARD IS WHAT COUNTS. Prove the row's statement (the work); the ties are given (YtbcljhafdpnjbauDoorTie.lean); close each card by the builder's one call (the guide's Derived/Test/ToyasCard.lean, 'card_holds'). Laid BY PROGRAM, IN A SANDBOX (cutbox-door.mjs). By AI agents, Wed Nov 11 2026. No macro, syntax, notation, axiom, sorry.
-/
import Derived.Test.YtbcljhafdpnjbauDoorRows
import GoSem.ClaimSeven
namespace Go.Proofs.YtbcljhafdpnjbauDoor
namespace Rows

/-- THE TIED CARD OF 'laws.FnExactRangeOf'. -/
def fnExactRangeOfCard : Claim7 := { stood := { row := fnExactRangeOfRow, standIns := [], harness := (true, "1d7ca42a0cf91f39b535f2f040dcd8b4940411e3f86526811f9e815ad6e479b3"), looks := false }, kinds := [], alts := [], laidByText := true, laidKinds := [.data], laidTests := true, laidLooks := .later }
def FnExactRangeOfCardSaid : Prop := Claim7.holds Tryd.pinned (.plain (OpenSpec.ofChange fnExactRangeOfSpec)) fnExactRangeOfCard

/-- THE TIED CARD OF 'laws.FnExactJoinChunks'. -/
def fnExactJoinChunksCard : Claim7 := { stood := { row := fnExactJoinChunksRow, standIns := [], harness := (true, "1d7ca42a0cf91f39b535f2f040dcd8b4940411e3f86526811f9e815ad6e479b3"), looks := false }, kinds := [], alts := [], laidByText := true, laidKinds := [.data], laidTests := true, laidLooks := .later }
def FnExactJoinChunksCardSaid : Prop := Claim7.holds Tryd.pinned (.plain (OpenSpec.ofChange fnExactJoinChunksSpec)) fnExactJoinChunksCard

/-- THE TIED CARD OF 'laws.FnExactChunkSize'. -/
def fnExactChunkSizeCard : Claim7 := { stood := { row := fnExactChunkSizeRow, standIns := [], harness := (true, "1d7ca42a0cf91f39b535f2f040dcd8b4940411e3f86526811f9e815ad6e479b3"), looks := false }, kinds := [], alts := [], laidByText := true, laidKinds := [.data], laidTests := true, laidLooks := .later }
def FnExactChunkSizeCardSaid : Prop := Claim7.holds Tryd.pinned (.plain (OpenSpec.ofChange fnExactChunkSizeSpec)) fnExactChunkSizeCard

/-- THE TIED CARD OF 'laws.FnExactReadLabels'. -/
def fnExactReadLabelsCard : Claim7 := { stood := { row := fnExactReadLabelsRow, standIns := [], harness := (true, "1d7ca42a0cf91f39b535f2f040dcd8b4940411e3f86526811f9e815ad6e479b3"), looks := false }, kinds := [], alts := [], laidByText := true, laidKinds := [.data, .pinned], laidTests := true, laidLooks := .later }
def FnExactReadLabelsCardSaid : Prop := Claim7.holds Tryd.pinned (.plain (OpenSpec.ofChange fnExactReadLabelsSpec)) fnExactReadLabelsCard

/-- THE SECOND FORM's CARD OF 'laws.FnExactRangeOf'. -/
def fnExactRangeOfUptoCard : Claim7 := { stood := { row := fnExactRangeOfUptoRow, standIns := [], harness := (true, "1d7ca42a0cf91f39b535f2f040dcd8b4940411e3f86526811f9e815ad6e479b3"), looks := false }, kinds := [], alts := [], laidByText := true, laidKinds := [.data], laidTests := true, laidLooks := .later }
def FnExactRangeOfUptoCardSaid : Prop := Claim7.holds Tryd.pinned (.plain (OpenSpec.upto fnExactRangeOfSpec)) fnExactRangeOfUptoCard

/-- THE SECOND FORM's CARD OF 'laws.FnExactJoinChunks'. -/
def fnExactJoinChunksUptoCard : Claim7 := { stood := { row := fnExactJoinChunksUptoRow, standIns := [], harness := (true, "1d7ca42a0cf91f39b535f2f040dcd8b4940411e3f86526811f9e815ad6e479b3"), looks := false }, kinds := [], alts := [], laidByText := true, laidKinds := [.data], laidTests := true, laidLooks := .later }
def FnExactJoinChunksUptoCardSaid : Prop := Claim7.holds Tryd.pinned (.plain (OpenSpec.upto fnExactJoinChunksSpec)) fnExactJoinChunksUptoCard

/-- THE SECOND FORM's CARD OF 'laws.FnExactChunkSize'. -/
def fnExactChunkSizeUptoCard : Claim7 := { stood := { row := fnExactChunkSizeUptoRow, standIns := [], harness := (true, "1d7ca42a0cf91f39b535f2f040dcd8b4940411e3f86526811f9e815ad6e479b3"), looks := false }, kinds := [], alts := [], laidByText := true, laidKinds := [.data], laidTests := true, laidLooks := .later }
def FnExactChunkSizeUptoCardSaid : Prop := Claim7.holds Tryd.pinned (.plain (OpenSpec.upto fnExactChunkSizeSpec)) fnExactChunkSizeUptoCard

/-- THE SECOND FORM's CARD OF 'laws.FnExactReadLabels'. -/
def fnExactReadLabelsUptoCard : Claim7 := { stood := { row := fnExactReadLabelsUptoRow, standIns := [], harness := (true, "1d7ca42a0cf91f39b535f2f040dcd8b4940411e3f86526811f9e815ad6e479b3"), looks := false }, kinds := [], alts := [], laidByText := true, laidKinds := [.data, .pinned], laidTests := true, laidLooks := .later }
def FnExactReadLabelsUptoCardSaid : Prop := Claim7.holds Tryd.pinned (.plain (OpenSpec.upto fnExactReadLabelsSpec)) fnExactReadLabelsUptoCard
end Rows
end Go.Proofs.YtbcljhafdpnjbauDoor
