/-
  DERIVED. GIVEN WITH THE SEED: THE CARDS: each row of YtmbonldiaimcfaaGreatDoorRows.lean that lists a variable, with what it lists TIED to the program's text (the seventh form; the later family's looks); each row that meets fmt, with fmt's text TOLD by the authors' own Lean function (tested against real Go, not proved from fmt's source: count such statements apart). THE CARD IS WHAT COUNTS. Prove the row's statement (the work); the ties are given (YtmbonldiaimcfaaGreatDoorTie.lean); close each card by the builder's one call (the guide's Derived/Test/ToyasCard.lean, 'card_holds'). Laid BY PROGRAM, IN A SANDBOX (cutbox-door.mjs). By AI agents, Wed Nov 11 2026. No macro, syntax, notation, axiom, sorry.
-/
import Derived.Test.YtmbonldiaimcfaaGreatDoorRows
import GoSem.ClaimSeven
namespace Go.Proofs.YtmbonldiaimcfaaGreatDoor
namespace Rows

/-- THE TIED CARD OF 'laws.FnMeant'. -/
def fnMeantCard : Claim7 := { stood := { row := fnMeantRow, standIns := [], harness := (true, "d4b73a31fb9f65810cdab15e9f5bdc9d816799e1ceb1246f7fab5dd56016a710"), looks := true }, kinds := [], alts := [], laidByText := true, laidKinds := [.data, .data, .data, .sentinel, .sentinel], laidTests := true, laidLooks := .later }
def FnMeantCardSaid : Prop := Claim7.holds Tryz.pinned (.plain (OpenSpec.ofChange fnMeantSpec)) fnMeantCard

/-- THE TIED CARD OF 'laws.FnPlates'. -/
def fnPlatesCard : Claim7 := { stood := { row := fnPlatesRow, standIns := [], harness := (true, "d4b73a31fb9f65810cdab15e9f5bdc9d816799e1ceb1246f7fab5dd56016a710"), looks := true }, kinds := [], alts := [], laidByText := true, laidKinds := [.data, .data, .data, .data, .sentinel, .sentinel, .data, .pinned], laidTests := true, laidLooks := .later }
def FnPlatesCardSaid : Prop := Claim7.holds Tryz.pinned (.plain (OpenSpec.ofChange fnPlatesSpec)) fnPlatesCard

/-- THE TIED CARD OF 'laws.FnExactPileOk'. -/
def fnExactPileOkCard : Claim7 := { stood := { row := fnExactPileOkRow, standIns := [], harness := (true, "d4b73a31fb9f65810cdab15e9f5bdc9d816799e1ceb1246f7fab5dd56016a710"), looks := true }, kinds := [], alts := [], laidByText := true, laidKinds := [.data, .data, .data, .sentinel, .sentinel], laidTests := true, laidLooks := .later }
def FnExactPileOkCardSaid : Prop := Claim7.holds Tryz.pinned (.plain (OpenSpec.ofChange fnExactPileOkSpec)) fnExactPileOkCard

/-- THE TIED CARD OF 'laws.FnExactIsOver'. -/
def fnExactIsOverCard : Claim7 := { stood := { row := fnExactIsOverRow, standIns := [], harness := (true, "d4b73a31fb9f65810cdab15e9f5bdc9d816799e1ceb1246f7fab5dd56016a710"), looks := true }, kinds := [], alts := [], laidByText := true, laidKinds := [.data, .data, .data, .sentinel, .sentinel], laidTests := true, laidLooks := .later }
def FnExactIsOverCardSaid : Prop := Claim7.holds Tryz.pinned (.plain (OpenSpec.ofChange fnExactIsOverSpec)) fnExactIsOverCard

/-- THE SECOND FORM's CARD OF 'laws.FnMeant'. -/
def fnMeantUptoCard : Claim7 := { stood := { row := fnMeantUptoRow, standIns := [], harness := (true, "d4b73a31fb9f65810cdab15e9f5bdc9d816799e1ceb1246f7fab5dd56016a710"), looks := true }, kinds := [], alts := [], laidByText := true, laidKinds := [.data, .data, .data, .sentinel, .sentinel], laidTests := true, laidLooks := .later }
def FnMeantUptoCardSaid : Prop := Claim7.holds Tryz.pinned (.plain (OpenSpec.upto fnMeantSpec)) fnMeantUptoCard

/-- THE SECOND FORM's CARD OF 'laws.FnPlates'. -/
def fnPlatesUptoCard : Claim7 := { stood := { row := fnPlatesUptoRow, standIns := [], harness := (true, "d4b73a31fb9f65810cdab15e9f5bdc9d816799e1ceb1246f7fab5dd56016a710"), looks := true }, kinds := [], alts := [], laidByText := true, laidKinds := [.data, .data, .data, .data, .sentinel, .sentinel, .data, .pinned], laidTests := true, laidLooks := .later }
def FnPlatesUptoCardSaid : Prop := Claim7.holds Tryz.pinned (.plain (OpenSpec.upto fnPlatesSpec)) fnPlatesUptoCard

/-- THE SECOND FORM's CARD OF 'laws.FnExactPileOk'. -/
def fnExactPileOkUptoCard : Claim7 := { stood := { row := fnExactPileOkUptoRow, standIns := [], harness := (true, "d4b73a31fb9f65810cdab15e9f5bdc9d816799e1ceb1246f7fab5dd56016a710"), looks := true }, kinds := [], alts := [], laidByText := true, laidKinds := [.data, .data, .data, .sentinel, .sentinel], laidTests := true, laidLooks := .later }
def FnExactPileOkUptoCardSaid : Prop := Claim7.holds Tryz.pinned (.plain (OpenSpec.upto fnExactPileOkSpec)) fnExactPileOkUptoCard

/-- THE SECOND FORM's CARD OF 'laws.FnExactIsOver'. -/
def fnExactIsOverUptoCard : Claim7 := { stood := { row := fnExactIsOverUptoRow, standIns := [], harness := (true, "d4b73a31fb9f65810cdab15e9f5bdc9d816799e1ceb1246f7fab5dd56016a710"), looks := true }, kinds := [], alts := [], laidByText := true, laidKinds := [.data, .data, .data, .sentinel, .sentinel], laidTests := true, laidLooks := .later }
def FnExactIsOverUptoCardSaid : Prop := Claim7.holds Tryz.pinned (.plain (OpenSpec.upto fnExactIsOverSpec)) fnExactIsOverUptoCard
end Rows
end Go.Proofs.YtmbonldiaimcfaaGreatDoor
