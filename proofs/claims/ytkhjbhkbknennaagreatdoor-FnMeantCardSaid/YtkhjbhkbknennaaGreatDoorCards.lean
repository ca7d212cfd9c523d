/-
  DERIVED. GIVEN WITH THE SEED: THE CARDS: each row of YtkhjbhkbknennaaGreatDoorRows.lean that lists a variable, with what it lists TIED to the program's text (the seventh form; the later family's looks); each row that meets fmt, with fmt's text TOLD by the authors' own Lean function (tested against real Go, not proved from fmt's source: count such statements apart). THE CARD IS WHAT COUNTS. Prove the row's statement (the work); the ties are given (YtkhjbhkbknennaaGreatDoorTie.lean); close each card by the builder's one call (the guide's Derived/Test/ToyasCard.lean, 'card_holds'). Laid BY PROGRAM, IN A SANDBOX (cutbox-door.mjs). By AI agents, Wed Nov 11 2026. No macro, syntax, notation, axiom, sorry.
-/
import Derived.Test.YtkhjbhkbknennaaGreatDoorRows
import GoSem.ClaimSeven
namespace Go.Proofs.YtkhjbhkbknennaaGreatDoor
namespace Rows

/-- THE TIED CARD OF 'laws.FnMeant'. -/
def fnMeantCard : Claim7 := { stood := { row := fnMeantRow, standIns := [], harness := (true, "bf2ab34d3d1f771fbd1f6989c594ac3e4874fe60281a50c9941d11f3608f6390"), looks := true }, kinds := [], alts := [], laidByText := true, laidKinds := [.data, .data, .data, .sentinel, .sentinel], laidTests := true, laidLooks := .later }
def FnMeantCardSaid : Prop := Claim7.holds Tryz.pinned (.plain (OpenSpec.ofChange fnMeantSpec)) fnMeantCard

/-- THE TIED CARD OF 'laws.FnPlates'. -/
def fnPlatesCard : Claim7 := { stood := { row := fnPlatesRow, standIns := [], harness := (true, "bf2ab34d3d1f771fbd1f6989c594ac3e4874fe60281a50c9941d11f3608f6390"), looks := true }, kinds := [], alts := [], laidByText := true, laidKinds := [.data, .data, .data, .data, .sentinel, .sentinel, .data, .pinned], laidTests := true, laidLooks := .later }
def FnPlatesCardSaid : Prop := Claim7.holds Tryz.pinned (.plain (OpenSpec.ofChange fnPlatesSpec)) fnPlatesCard

/-- THE SECOND FORM's CARD OF 'laws.FnMeant'. -/
def fnMeantUptoCard : Claim7 := { stood := { row := fnMeantUptoRow, standIns := [], harness := (true, "bf2ab34d3d1f771fbd1f6989c594ac3e4874fe60281a50c9941d11f3608f6390"), looks := true }, kinds := [], alts := [], laidByText := true, laidKinds := [.data, .data, .data, .sentinel, .sentinel], laidTests := true, laidLooks := .later }
def FnMeantUptoCardSaid : Prop := Claim7.holds Tryz.pinned (.plain (OpenSpec.upto fnMeantSpec)) fnMeantUptoCard

/-- THE SECOND FORM's CARD OF 'laws.FnPlates'. -/
def fnPlatesUptoCard : Claim7 := { stood := { row := fnPlatesUptoRow, standIns := [], harness := (true, "bf2ab34d3d1f771fbd1f6989c594ac3e4874fe60281a50c9941d11f3608f6390"), looks := true }, kinds := [], alts := [], laidByText := true, laidKinds := [.data, .data, .data, .data, .sentinel, .sentinel, .data, .pinned], laidTests := true, laidLooks := .later }
def FnPlatesUptoCardSaid : Prop := Claim7.holds Tryz.pinned (.plain (OpenSpec.upto fnPlatesSpec)) fnPlatesUptoCard
end Rows
end Go.Proofs.YtkhjbhkbknennaaGreatDoor
