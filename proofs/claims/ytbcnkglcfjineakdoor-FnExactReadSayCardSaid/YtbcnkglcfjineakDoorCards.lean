/-
  DERIVED. GIVEN WITH THE SEED: THE CARDS: each row of YtbcnkglcfjineakDoorRows.lean that lists a variable, with what it lists TIED to the program's text (the seventh form; the later family's looks); each row that meets fmt, with fmt's text TOLD by the authors' own Lean function (tested against real Go, not proved from fmt's source: count such statements apart). THE CARD IS WHAT COUNTS. Prove the row's statement (the work); the ties are given (YtbcnkglcfjineakDoorTie.lean); close each card by the builder's one call (the guide's Derived/Test/ToyasCard.lean, 'card_holds'). Laid BY PROGRAM, IN A SANDBOX (cutbox-door.mjs). By AI agents, Wed Nov 11 2026. No macro, syntax, notation, axiom, sorry.
-/
import Derived.Test.YtbcnkglcfjineakDoorRows
import GoSem.ClaimSeven
namespace Go.Proofs.YtbcnkglcfjineakDoor
namespace Rows

/-- THE TIED CARD OF 'laws.FnExactSayText'. -/
def fnExactSayTextCard : Claim7 := { stood := { row := fnExactSayTextRow, standIns := [], harness := (true, "5e319dcc3896d8e2faf0ec70cbe7538dd204d6ce0bc416ba8988d03d3f0fd112"), looks := true }, kinds := [], alts := [], laidByText := true, laidKinds := [.data, .data, .data], laidTests := true, laidLooks := .later }
def FnExactSayTextCardSaid : Prop := Claim7.holds Tryd.pinned (.plain (OpenSpec.ofChange fnExactSayTextSpec)) fnExactSayTextCard

/-- THE TIED CARD OF 'laws.FnExactReadSay'. -/
def fnExactReadSayCard : Claim7 := { stood := { row := fnExactReadSayRow, standIns := [], harness := (true, "5e319dcc3896d8e2faf0ec70cbe7538dd204d6ce0bc416ba8988d03d3f0fd112"), looks := true }, kinds := [], alts := [], laidByText := true, laidKinds := [.data, .data, .data, .sentinel, .sentinel], laidTests := true, laidLooks := .later }
def FnExactReadSayCardSaid : Prop := Claim7.holds Tryd.pinned (.plain (OpenSpec.ofChange fnExactReadSaySpec)) fnExactReadSayCard

/-- THE TIED CARD OF 'laws.FnExactHeadText'. -/
def fnExactHeadTextCard : Claim7 := { stood := { row := fnExactHeadTextRow, standIns := [], harness := (true, "5e319dcc3896d8e2faf0ec70cbe7538dd204d6ce0bc416ba8988d03d3f0fd112"), looks := true }, kinds := [], alts := [], laidByText := true, laidKinds := [.data, .data, .data], laidTests := true, laidLooks := .later }
def FnExactHeadTextCardSaid : Prop := Claim7.holds Tryd.pinned (.plain (OpenSpec.ofChange fnExactHeadTextSpec)) fnExactHeadTextCard

/-- THE TIED CARD OF 'laws.FnExactReadHead'. -/
def fnExactReadHeadCard : Claim7 := { stood := { row := fnExactReadHeadRow, standIns := [], harness := (true, "5e319dcc3896d8e2faf0ec70cbe7538dd204d6ce0bc416ba8988d03d3f0fd112"), looks := true }, kinds := [], alts := [], laidByText := true, laidKinds := [.data, .data, .data, .sentinel, .sentinel], laidTests := true, laidLooks := .later }
def FnExactReadHeadCardSaid : Prop := Claim7.holds Tryd.pinned (.plain (OpenSpec.ofChange fnExactReadHeadSpec)) fnExactReadHeadCard

/-- THE SECOND FORM's CARD OF 'laws.FnExactSayText'. -/
def fnExactSayTextUptoCard : Claim7 := { stood := { row := fnExactSayTextUptoRow, standIns := [], harness := (true, "5e319dcc3896d8e2faf0ec70cbe7538dd204d6ce0bc416ba8988d03d3f0fd112"), looks := true }, kinds := [], alts := [], laidByText := true, laidKinds := [.data, .data, .data], laidTests := true, laidLooks := .later }
def FnExactSayTextUptoCardSaid : Prop := Claim7.holds Tryd.pinned (.plain (OpenSpec.upto fnExactSayTextSpec)) fnExactSayTextUptoCard

/-- THE SECOND FORM's CARD OF 'laws.FnExactReadSay'. -/
def fnExactReadSayUptoCard : Claim7 := { stood := { row := fnExactReadSayUptoRow, standIns := [], harness := (true, "5e319dcc3896d8e2faf0ec70cbe7538dd204d6ce0bc416ba8988d03d3f0fd112"), looks := true }, kinds := [], alts := [], laidByText := true, laidKinds := [.data, .data, .data, .sentinel, .sentinel], laidTests := true, laidLooks := .later }
def FnExactReadSayUptoCardSaid : Prop := Claim7.holds Tryd.pinned (.plain (OpenSpec.upto fnExactReadSaySpec)) fnExactReadSayUptoCard

/-- THE SECOND FORM's CARD OF 'laws.FnExactHeadText'. -/
def fnExactHeadTextUptoCard : Claim7 := { stood := { row := fnExactHeadTextUptoRow, standIns := [], harness := (true, "5e319dcc3896d8e2faf0ec70cbe7538dd204d6ce0bc416ba8988d03d3f0fd112"), looks := true }, kinds := [], alts := [], laidByText := true, laidKinds := [.data, .data, .data], laidTests := true, laidLooks := .later }
def FnExactHeadTextUptoCardSaid : Prop := Claim7.holds Tryd.pinned (.plain (OpenSpec.upto fnExactHeadTextSpec)) fnExactHeadTextUptoCard

/-- THE SECOND FORM's CARD OF 'laws.FnExactReadHead'. -/
def fnExactReadHeadUptoCard : Claim7 := { stood := { row := fnExactReadHeadUptoRow, standIns := [], harness := (true, "5e319dcc3896d8e2faf0ec70cbe7538dd204d6ce0bc416ba8988d03d3f0fd112"), looks := true }, kinds := [], alts := [], laidByText := true, laidKinds := [.data, .data, .data, .sentinel, .sentinel], laidTests := true, laidLooks := .later }
def FnExactReadHeadUptoCardSaid : Prop := Claim7.holds Tryd.pinned (.plain (OpenSpec.upto fnExactReadHeadSpec)) fnExactReadHeadUptoCard
end Rows
end Go.Proofs.YtbcnkglcfjineakDoor
