/-
  DERIVED. GIVEN WITH THE SEED: THE CARDS: each row of YtapffbbmofhpobaDoorRows.lean that lists a variable, with what it lists TIED to the program's text (the seventh form; the later family's looks); each row that meets fmt, with fmt's text TOLD by the authors' own Lean function (tested against real Go, not proved from fmt's source: count such statements apart). THE CARD IS WHAT COUNTS. Prove the row's statement (the work); the ties are given (YtapffbbmofhpobaDoorTie.lean); close each card by the builder's one call (the guide's Derived/Test/ToyasCard.lean, 'card_holds'). Laid BY PROGRAM, IN A SANDBOX (cutbox-door.mjs). By AI agents, Wed Nov 11 2026. No macro, syntax, notation, axiom, sorry.
-/
import Derived.Test.YtapffbbmofhpobaDoorRows
import GoSem.ClaimSeven
namespace Go.Proofs.YtapffbbmofhpobaDoor
namespace Rows

/-- THE TIED CARD OF 'laws.FnExactCutFrom'. -/
def fnExactCutFromCard : Claim7 := { stood := { row := fnExactCutFromRow, standIns := [], harness := (true, "f22ff1c8a4271219f350d35123e0a3d54db97dc96d1fbe48cdec1a00e80b4e38"), looks := false }, kinds := [], alts := [], laidByText := true, laidKinds := [.data], laidTests := true, laidLooks := .later }
def FnExactCutFromCardSaid : Prop := Claim7.holds Tryd.pinned (.plain (OpenSpec.ofChange fnExactCutFromSpec)) fnExactCutFromCard

/-- THE TIED CARD OF 'laws.FnExactDropBefore'. -/
def fnExactDropBeforeCard : Claim7 := { stood := { row := fnExactDropBeforeRow, standIns := [], harness := (true, "f22ff1c8a4271219f350d35123e0a3d54db97dc96d1fbe48cdec1a00e80b4e38"), looks := false }, kinds := [], alts := [], laidByText := true, laidKinds := [.data], laidTests := true, laidLooks := .later }
def FnExactDropBeforeCardSaid : Prop := Claim7.holds Tryd.pinned (.plain (OpenSpec.ofChange fnExactDropBeforeSpec)) fnExactDropBeforeCard

/-- THE TIED CARD OF 'laws.FnExactRecoverPiece'. -/
def fnExactRecoverPieceCard : Claim7 := { stood := { row := fnExactRecoverPieceRow, standIns := [], harness := (true, "f22ff1c8a4271219f350d35123e0a3d54db97dc96d1fbe48cdec1a00e80b4e38"), looks := false }, kinds := [], alts := [], laidByText := true, laidKinds := [.data], laidTests := true, laidLooks := .later }
def FnExactRecoverPieceCardSaid : Prop := Claim7.holds Tryd.pinned (.plain (OpenSpec.ofChange fnExactRecoverPieceSpec)) fnExactRecoverPieceCard

/-- THE TIED CARD OF 'laws.FnExactTearEnd'. -/
def fnExactTearEndCard : Claim7 := { stood := { row := fnExactTearEndRow, standIns := [], harness := (true, "f22ff1c8a4271219f350d35123e0a3d54db97dc96d1fbe48cdec1a00e80b4e38"), looks := false }, kinds := [], alts := [], laidByText := true, laidKinds := [.data], laidTests := true, laidLooks := .later }
def FnExactTearEndCardSaid : Prop := Claim7.holds Tryd.pinned (.plain (OpenSpec.ofChange fnExactTearEndSpec)) fnExactTearEndCard

/-- THE SECOND FORM's CARD OF 'laws.FnExactCutFrom'. -/
def fnExactCutFromUptoCard : Claim7 := { stood := { row := fnExactCutFromUptoRow, standIns := [], harness := (true, "f22ff1c8a4271219f350d35123e0a3d54db97dc96d1fbe48cdec1a00e80b4e38"), looks := false }, kinds := [], alts := [], laidByText := true, laidKinds := [.data], laidTests := true, laidLooks := .later }
def FnExactCutFromUptoCardSaid : Prop := Claim7.holds Tryd.pinned (.plain (OpenSpec.upto fnExactCutFromSpec)) fnExactCutFromUptoCard

/-- THE SECOND FORM's CARD OF 'laws.FnExactDropBefore'. -/
def fnExactDropBeforeUptoCard : Claim7 := { stood := { row := fnExactDropBeforeUptoRow, standIns := [], harness := (true, "f22ff1c8a4271219f350d35123e0a3d54db97dc96d1fbe48cdec1a00e80b4e38"), looks := false }, kinds := [], alts := [], laidByText := true, laidKinds := [.data], laidTests := true, laidLooks := .later }
def FnExactDropBeforeUptoCardSaid : Prop := Claim7.holds Tryd.pinned (.plain (OpenSpec.upto fnExactDropBeforeSpec)) fnExactDropBeforeUptoCard

/-- THE SECOND FORM's CARD OF 'laws.FnExactRecoverPiece'. -/
def fnExactRecoverPieceUptoCard : Claim7 := { stood := { row := fnExactRecoverPieceUptoRow, standIns := [], harness := (true, "f22ff1c8a4271219f350d35123e0a3d54db97dc96d1fbe48cdec1a00e80b4e38"), looks := false }, kinds := [], alts := [], laidByText := true, laidKinds := [.data], laidTests := true, laidLooks := .later }
def FnExactRecoverPieceUptoCardSaid : Prop := Claim7.holds Tryd.pinned (.plain (OpenSpec.upto fnExactRecoverPieceSpec)) fnExactRecoverPieceUptoCard

/-- THE SECOND FORM's CARD OF 'laws.FnExactTearEnd'. -/
def fnExactTearEndUptoCard : Claim7 := { stood := { row := fnExactTearEndUptoRow, standIns := [], harness := (true, "f22ff1c8a4271219f350d35123e0a3d54db97dc96d1fbe48cdec1a00e80b4e38"), looks := false }, kinds := [], alts := [], laidByText := true, laidKinds := [.data], laidTests := true, laidLooks := .later }
def FnExactTearEndUptoCardSaid : Prop := Claim7.holds Tryd.pinned (.plain (OpenSpec.upto fnExactTearEndSpec)) fnExactTearEndUptoCard
end Rows
end Go.Proofs.YtapffbbmofhpobaDoor
