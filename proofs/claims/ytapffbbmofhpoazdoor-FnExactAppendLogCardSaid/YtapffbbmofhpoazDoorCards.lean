/-
  DERIVED. GIVEN WITH THE SEED: THE CARDS: each row of YtapffbbmofhpoazDoorRows.lean that lists a variable, with what it lists TIED to the program's text (the seventh form; the later family's looks); each row that meets fmt, with fmt's text TOLD by the authors' own Lean function (tested against real Go, not proved from fmt's source: count such statements apart). THE CARD IS WHAT COUNTS. Prove the row's statement (the work); the ties are given (YtapffbbmofhpoazDoorTie.lean); close each card by the builder's one call (the guide's Derived/Test/ToyasCard.lean, 'card_holds'). Laid BY PROGRAM, IN A SANDBOX (cutbox-door.mjs). By AI agents, Wed Nov 11 2026. No macro, syntax, notation, axiom, sorry.
-/
import Derived.Test.YtapffbbmofhpoazDoorRows
import GoSem.ClaimSeven
namespace Go.Proofs.YtapffbbmofhpoazDoor
namespace Rows

/-- THE TIED CARD OF 'laws.FnExactGoodLog'. -/
def fnExactGoodLogCard : Claim7 := { stood := { row := fnExactGoodLogRow, standIns := [], harness := (true, "d16463430b1489f3de32b3a43fc3fa80810ad8b255a15918947d0953a8530e51"), looks := false }, kinds := [], alts := [], laidByText := true, laidKinds := [.data], laidTests := true, laidLooks := .later }
def FnExactGoodLogCardSaid : Prop := Claim7.holds Tryd.pinned (.plain (OpenSpec.ofChange fnExactGoodLogSpec)) fnExactGoodLogCard

/-- THE TIED CARD OF 'laws.FnExactAppendLog'. -/
def fnExactAppendLogCard : Claim7 := { stood := { row := fnExactAppendLogRow, standIns := [], harness := (true, "d16463430b1489f3de32b3a43fc3fa80810ad8b255a15918947d0953a8530e51"), looks := false }, kinds := [], alts := [], laidByText := true, laidKinds := [.data], laidTests := true, laidLooks := .later }
def FnExactAppendLogCardSaid : Prop := Claim7.holds Tryd.pinned (.plain (OpenSpec.ofChange fnExactAppendLogSpec)) fnExactAppendLogCard

/-- THE TIED CARD OF 'laws.FnExactReadAt'. -/
def fnExactReadAtCard : Claim7 := { stood := { row := fnExactReadAtRow, standIns := [], harness := (true, "d16463430b1489f3de32b3a43fc3fa80810ad8b255a15918947d0953a8530e51"), looks := false }, kinds := [], alts := [], laidByText := true, laidKinds := [.data], laidTests := true, laidLooks := .later }
def FnExactReadAtCardSaid : Prop := Claim7.holds Tryd.pinned (.plain (OpenSpec.ofChange fnExactReadAtSpec)) fnExactReadAtCard

/-- THE TIED CARD OF 'laws.FnExactEndOf'. -/
def fnExactEndOfCard : Claim7 := { stood := { row := fnExactEndOfRow, standIns := [], harness := (true, "d16463430b1489f3de32b3a43fc3fa80810ad8b255a15918947d0953a8530e51"), looks := false }, kinds := [], alts := [], laidByText := true, laidKinds := [.data], laidTests := true, laidLooks := .later }
def FnExactEndOfCardSaid : Prop := Claim7.holds Tryd.pinned (.plain (OpenSpec.ofChange fnExactEndOfSpec)) fnExactEndOfCard

/-- THE TIED CARD OF 'laws.FnExactAllOf'. -/
def fnExactAllOfCard : Claim7 := { stood := { row := fnExactAllOfRow, standIns := [], harness := (true, "d16463430b1489f3de32b3a43fc3fa80810ad8b255a15918947d0953a8530e51"), looks := false }, kinds := [], alts := [], laidByText := true, laidKinds := [.data], laidTests := true, laidLooks := .later }
def FnExactAllOfCardSaid : Prop := Claim7.holds Tryd.pinned (.plain (OpenSpec.ofChange fnExactAllOfSpec)) fnExactAllOfCard

/-- THE SECOND FORM's CARD OF 'laws.FnExactGoodLog'. -/
def fnExactGoodLogUptoCard : Claim7 := { stood := { row := fnExactGoodLogUptoRow, standIns := [], harness := (true, "d16463430b1489f3de32b3a43fc3fa80810ad8b255a15918947d0953a8530e51"), looks := false }, kinds := [], alts := [], laidByText := true, laidKinds := [.data], laidTests := true, laidLooks := .later }
def FnExactGoodLogUptoCardSaid : Prop := Claim7.holds Tryd.pinned (.plain (OpenSpec.upto fnExactGoodLogSpec)) fnExactGoodLogUptoCard

/-- THE SECOND FORM's CARD OF 'laws.FnExactAppendLog'. -/
def fnExactAppendLogUptoCard : Claim7 := { stood := { row := fnExactAppendLogUptoRow, standIns := [], harness := (true, "d16463430b1489f3de32b3a43fc3fa80810ad8b255a15918947d0953a8530e51"), looks := false }, kinds := [], alts := [], laidByText := true, laidKinds := [.data], laidTests := true, laidLooks := .later }
def FnExactAppendLogUptoCardSaid : Prop := Claim7.holds Tryd.pinned (.plain (OpenSpec.upto fnExactAppendLogSpec)) fnExactAppendLogUptoCard

/-- THE SECOND FORM's CARD OF 'laws.FnExactReadAt'. -/
def fnExactReadAtUptoCard : Claim7 := { stood := { row := fnExactReadAtUptoRow, standIns := [], harness := (true, "d16463430b1489f3de32b3a43fc3fa80810ad8b255a15918947d0953a8530e51"), looks := false }, kinds := [], alts := [], laidByText := true, laidKinds := [.data], laidTests := true, laidLooks := .later }
def FnExactReadAtUptoCardSaid : Prop := Claim7.holds Tryd.pinned (.plain (OpenSpec.upto fnExactReadAtSpec)) fnExactReadAtUptoCard

/-- THE SECOND FORM's CARD OF 'laws.FnExactEndOf'. -/
def fnExactEndOfUptoCard : Claim7 := { stood := { row := fnExactEndOfUptoRow, standIns := [], harness := (true, "d16463430b1489f3de32b3a43fc3fa80810ad8b255a15918947d0953a8530e51"), looks := false }, kinds := [], alts := [], laidByText := true, laidKinds := [.data], laidTests := true, laidLooks := .later }
def FnExactEndOfUptoCardSaid : Prop := Claim7.holds Tryd.pinned (.plain (OpenSpec.upto fnExactEndOfSpec)) fnExactEndOfUptoCard

/-- THE SECOND FORM's CARD OF 'laws.FnExactAllOf'. -/
def fnExactAllOfUptoCard : Claim7 := { stood := { row := fnExactAllOfUptoRow, standIns := [], harness := (true, "d16463430b1489f3de32b3a43fc3fa80810ad8b255a15918947d0953a8530e51"), looks := false }, kinds := [], alts := [], laidByText := true, laidKinds := [.data], laidTests := true, laidLooks := .later }
def FnExactAllOfUptoCardSaid : Prop := Claim7.holds Tryd.pinned (.plain (OpenSpec.upto fnExactAllOfSpec)) fnExactAllOfUptoCard
end Rows
end Go.Proofs.YtapffbbmofhpoazDoor
