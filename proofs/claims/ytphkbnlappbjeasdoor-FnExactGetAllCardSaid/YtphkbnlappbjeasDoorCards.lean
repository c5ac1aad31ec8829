/-
  DERIVED. GIVEN WITH THE SEED: THE CARDS: each row of YtphkbnlappbjeasDoorRows.lean that lists a variable, with what it lists TIED to the program's text (the seventh form; the later family's looks); each row that meets fmt, with fmt's text TOLD by the authors' own Lean function (tested against real Go, not proved from fmt's source: count such statements apart). THE CARD IS WHAT COUNTS. Prove the row's statement (the work); the ties are given (YtphkbnlappbjeasDoorTie.lean); close each card by the builder's one call (the guide's Derived/Test/ToyasCard.lean, 'card_holds'). Laid BY PROGRAM, IN A SANDBOX (cutbox-door.mjs). By AI agents, Wed Nov 11 2026. No macro, syntax, notation, axiom, sorry.
-/
import Derived.Test.YtphkbnlappbjeasDoorRows
import GoSem.ClaimSeven
namespace Go.Proofs.YtphkbnlappbjeasDoor
namespace Rows

/-- THE TIED CARD OF 'laws.FnExactGetVarint'. -/
def fnExactGetVarintCard : Claim7 := { stood := { row := fnExactGetVarintRow, standIns := [], harness := (true, "93974d37fd0a124e227ad057e2e2236230b7b625a1c9a6d2e2b5474cbd169b81"), looks := false }, kinds := [], alts := [], laidByText := true, laidKinds := [.data], laidTests := true, laidLooks := .later }
def FnExactGetVarintCardSaid : Prop := Claim7.holds Tryd.pinned (.plain (OpenSpec.ofChange fnExactGetVarintSpec)) fnExactGetVarintCard

/-- THE TIED CARD OF 'laws.FnExactPutAll'. -/
def fnExactPutAllCard : Claim7 := { stood := { row := fnExactPutAllRow, standIns := [], harness := (true, "93974d37fd0a124e227ad057e2e2236230b7b625a1c9a6d2e2b5474cbd169b81"), looks := false }, kinds := [], alts := [], laidByText := true, laidKinds := [.data], laidTests := true, laidLooks := .later }
def FnExactPutAllCardSaid : Prop := Claim7.holds Tryd.pinned (.plain (OpenSpec.ofChange fnExactPutAllSpec)) fnExactPutAllCard

/-- THE TIED CARD OF 'laws.FnExactGetAll'. -/
def fnExactGetAllCard : Claim7 := { stood := { row := fnExactGetAllRow, standIns := [], harness := (true, "93974d37fd0a124e227ad057e2e2236230b7b625a1c9a6d2e2b5474cbd169b81"), looks := false }, kinds := [], alts := [], laidByText := true, laidKinds := [.data], laidTests := true, laidLooks := .later }
def FnExactGetAllCardSaid : Prop := Claim7.holds Tryd.pinned (.plain (OpenSpec.ofChange fnExactGetAllSpec)) fnExactGetAllCard

/-- THE TIED CARD OF 'laws.FnExactLengthOf'. -/
def fnExactLengthOfCard : Claim7 := { stood := { row := fnExactLengthOfRow, standIns := [], harness := (true, "93974d37fd0a124e227ad057e2e2236230b7b625a1c9a6d2e2b5474cbd169b81"), looks := false }, kinds := [], alts := [], laidByText := true, laidKinds := [.data], laidTests := true, laidLooks := .later }
def FnExactLengthOfCardSaid : Prop := Claim7.holds Tryd.pinned (.plain (OpenSpec.ofChange fnExactLengthOfSpec)) fnExactLengthOfCard

/-- THE TIED CARD OF 'laws.FnExactGammaBits'. -/
def fnExactGammaBitsCard : Claim7 := { stood := { row := fnExactGammaBitsRow, standIns := [], harness := (true, "93974d37fd0a124e227ad057e2e2236230b7b625a1c9a6d2e2b5474cbd169b81"), looks := false }, kinds := [], alts := [], laidByText := true, laidKinds := [.data, .data, .data], laidTests := true, laidLooks := .later }
def FnExactGammaBitsCardSaid : Prop := Claim7.holds Tryd.pinned (.plain (OpenSpec.ofChange fnExactGammaBitsSpec)) fnExactGammaBitsCard

/-- THE SECOND FORM's CARD OF 'laws.FnExactGetVarint'. -/
def fnExactGetVarintUptoCard : Claim7 := { stood := { row := fnExactGetVarintUptoRow, standIns := [], harness := (true, "93974d37fd0a124e227ad057e2e2236230b7b625a1c9a6d2e2b5474cbd169b81"), looks := false }, kinds := [], alts := [], laidByText := true, laidKinds := [.data], laidTests := true, laidLooks := .later }
def FnExactGetVarintUptoCardSaid : Prop := Claim7.holds Tryd.pinned (.plain (OpenSpec.upto fnExactGetVarintSpec)) fnExactGetVarintUptoCard

/-- THE SECOND FORM's CARD OF 'laws.FnExactPutAll'. -/
def fnExactPutAllUptoCard : Claim7 := { stood := { row := fnExactPutAllUptoRow, standIns := [], harness := (true, "93974d37fd0a124e227ad057e2e2236230b7b625a1c9a6d2e2b5474cbd169b81"), looks := false }, kinds := [], alts := [], laidByText := true, laidKinds := [.data], laidTests := true, laidLooks := .later }
def FnExactPutAllUptoCardSaid : Prop := Claim7.holds Tryd.pinned (.plain (OpenSpec.upto fnExactPutAllSpec)) fnExactPutAllUptoCard

/-- THE SECOND FORM's CARD OF 'laws.FnExactGetAll'. -/
def fnExactGetAllUptoCard : Claim7 := { stood := { row := fnExactGetAllUptoRow, standIns := [], harness := (true, "93974d37fd0a124e227ad057e2e2236230b7b625a1c9a6d2e2b5474cbd169b81"), looks := false }, kinds := [], alts := [], laidByText := true, laidKinds := [.data], laidTests := true, laidLooks := .later }
def FnExactGetAllUptoCardSaid : Prop := Claim7.holds Tryd.pinned (.plain (OpenSpec.upto fnExactGetAllSpec)) fnExactGetAllUptoCard

/-- THE SECOND FORM's CARD OF 'laws.FnExactLengthOf'. -/
def fnExactLengthOfUptoCard : Claim7 := { stood := { row := fnExactLengthOfUptoRow, standIns := [], harness := (true, "93974d37fd0a124e227ad057e2e2236230b7b625a1c9a6d2e2b5474cbd169b81"), looks := false }, kinds := [], alts := [], laidByText := true, laidKinds := [.data], laidTests := true, laidLooks := .later }
def FnExactLengthOfUptoCardSaid : Prop := Claim7.holds Tryd.pinned (.plain (OpenSpec.upto fnExactLengthOfSpec)) fnExactLengthOfUptoCard

/-- THE SECOND FORM's CARD OF 'laws.FnExactGammaBits'. -/
def fnExactGammaBitsUptoCard : Claim7 := { stood := { row := fnExactGammaBitsUptoRow, standIns := [], harness := (true, "93974d37fd0a124e227ad057e2e2236230b7b625a1c9a6d2e2b5474cbd169b81"), looks := false }, kinds := [], alts := [], laidByText := true, laidKinds := [.data, .data, .data], laidTests := true, laidLooks := .later }
def FnExactGammaBitsUptoCardSaid : Prop := Claim7.holds Tryd.pinned (.plain (OpenSpec.upto fnExactGammaBitsSpec)) fnExactGammaBitsUptoCard
end Rows
end Go.Proofs.YtphkbnlappbjeasDoor
