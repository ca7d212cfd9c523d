/-
  DERIVED. GIVEN WITH THE SEED: THE CARDS: each row of YtgcjmhecnbhhlaaDoorRows.lean that lists a variable, with what it lists TIED to the program's text (the seventh form; the later family's looks); each row that meets fmt, with fmt's text TOLD by the authors' own Lean function (tested against real Go, not proved from fmt's source: count such statements apart). THE CARD IS WHAT COUNTS. Prove the row's statement (the work); the ties are given (YtgcjmhecnbhhlaaDoorTie.lean); close each card by the builder's one call (the guide's Derived/Test/ToyasCard.lean, 'card_holds'). Laid BY PROGRAM, IN A SANDBOX (cutbox-door.mjs). By AI agents, Wed Nov 11 2026. No macro, syntax, notation, axiom, sorry.
-/
import Derived.Test.YtgcjmhecnbhhlaaDoorRows
import GoSem.ClaimSeven
namespace Go.Proofs.YtgcjmhecnbhhlaaDoor
namespace Rows

/-- THE TIED CARD OF 'laws.FnValues'. -/
def fnValuesCard : Claim7 := { stood := { row := fnValuesRow, standIns := [], harness := (true, "0c6a91f7d155a0f1dc839e6c11144eed5e39ae27670af0ae7c8eb5d9812e56a6"), looks := true }, kinds := [], alts := [], laidByText := true, laidKinds := [.data, .data, .data, .sentinel, .sentinel], laidTests := true, laidLooks := .later }
def FnValuesCardSaid : Prop := Claim7.holds Tryd.pinned (.plain (OpenSpec.ofChange fnValuesSpec)) fnValuesCard

/-- THE TIED CARD OF 'laws.FnParts'. -/
def fnPartsCard : Claim7 := { stood := { row := fnPartsRow, standIns := [], harness := (true, "0c6a91f7d155a0f1dc839e6c11144eed5e39ae27670af0ae7c8eb5d9812e56a6"), looks := true }, kinds := [], alts := [], laidByText := true, laidKinds := [.data, .data, .data, .sentinel, .sentinel], laidTests := true, laidLooks := .later }
def FnPartsCardSaid : Prop := Claim7.holds Tryd.pinned (.plain (OpenSpec.ofChange fnPartsSpec)) fnPartsCard

/-- THE TIED CARD OF 'laws.FnExactIsPlain'. -/
def fnExactIsPlainCard : Claim7 := { stood := { row := fnExactIsPlainRow, standIns := [], harness := (true, "0c6a91f7d155a0f1dc839e6c11144eed5e39ae27670af0ae7c8eb5d9812e56a6"), looks := true }, kinds := [], alts := [], laidByText := true, laidKinds := [.data, .data, .data, .sentinel, .sentinel], laidTests := true, laidLooks := .later }
def FnExactIsPlainCardSaid : Prop := Claim7.holds Tryd.pinned (.plain (OpenSpec.ofChange fnExactIsPlainSpec)) fnExactIsPlainCard

/-- THE TIED CARD OF 'laws.FnExactIsStart'. -/
def fnExactIsStartCard : Claim7 := { stood := { row := fnExactIsStartRow, standIns := [], harness := (true, "0c6a91f7d155a0f1dc839e6c11144eed5e39ae27670af0ae7c8eb5d9812e56a6"), looks := true }, kinds := [], alts := [], laidByText := true, laidKinds := [.data, .data, .data, .sentinel, .sentinel], laidTests := true, laidLooks := .later }
def FnExactIsStartCardSaid : Prop := Claim7.holds Tryd.pinned (.plain (OpenSpec.ofChange fnExactIsStartSpec)) fnExactIsStartCard

/-- THE TIED CARD OF 'laws.FnExactPartsOf'. -/
def fnExactPartsOfCard : Claim7 := { stood := { row := fnExactPartsOfRow, standIns := [], harness := (true, "0c6a91f7d155a0f1dc839e6c11144eed5e39ae27670af0ae7c8eb5d9812e56a6"), looks := true }, kinds := [], alts := [], laidByText := true, laidKinds := [.data, .data, .data, .sentinel, .sentinel], laidTests := true, laidLooks := .later }
def FnExactPartsOfCardSaid : Prop := Claim7.holds Tryd.pinned (.plain (OpenSpec.ofChange fnExactPartsOfSpec)) fnExactPartsOfCard

/-- THE TIED CARD OF 'laws.FnExactShowSum'. -/
def fnExactShowSumCard : Claim7 := { stood := { row := fnExactShowSumRow, standIns := [], harness := (true, "0c6a91f7d155a0f1dc839e6c11144eed5e39ae27670af0ae7c8eb5d9812e56a6"), looks := true }, kinds := [], alts := [], laidByText := true, laidKinds := [.data, .data, .data, .sentinel, .sentinel], laidTests := true, laidLooks := .later }
def FnExactShowSumCardSaid : Prop := Claim7.holds Tryd.pinned (.plain (OpenSpec.ofChange fnExactShowSumSpec)) fnExactShowSumCard

/-- THE TIED CARD OF 'laws.FnExactReadSum'. -/
def fnExactReadSumCard : Claim7 := { stood := { row := fnExactReadSumRow, standIns := [], harness := (true, "0c6a91f7d155a0f1dc839e6c11144eed5e39ae27670af0ae7c8eb5d9812e56a6"), looks := true }, kinds := [], alts := [], laidByText := true, laidKinds := [.data, .data, .data, .data, .sentinel, .sentinel, .pinned], laidTests := true, laidLooks := .later }
def FnExactReadSumCardSaid : Prop := Claim7.holds Tryd.pinned (.plain (OpenSpec.ofChange fnExactReadSumSpec)) fnExactReadSumCard

/-- THE TIED CARD OF 'laws.FnExactWordsIn'. -/
def fnExactWordsInCard : Claim7 := { stood := { row := fnExactWordsInRow, standIns := [], harness := (true, "0c6a91f7d155a0f1dc839e6c11144eed5e39ae27670af0ae7c8eb5d9812e56a6"), looks := true }, kinds := [], alts := [], laidByText := true, laidKinds := [.data, .data, .data, .sentinel, .sentinel], laidTests := true, laidLooks := .later }
def FnExactWordsInCardSaid : Prop := Claim7.holds Tryd.pinned (.plain (OpenSpec.ofChange fnExactWordsInSpec)) fnExactWordsInCard

/-- THE TIED CARD OF 'laws.FnExactDepthOf'. -/
def fnExactDepthOfCard : Claim7 := { stood := { row := fnExactDepthOfRow, standIns := [], harness := (true, "0c6a91f7d155a0f1dc839e6c11144eed5e39ae27670af0ae7c8eb5d9812e56a6"), looks := true }, kinds := [], alts := [], laidByText := true, laidKinds := [.data, .data, .data, .sentinel, .sentinel], laidTests := true, laidLooks := .later }
def FnExactDepthOfCardSaid : Prop := Claim7.holds Tryd.pinned (.plain (OpenSpec.ofChange fnExactDepthOfSpec)) fnExactDepthOfCard

/-- THE SECOND FORM's CARD OF 'laws.FnValues'. -/
def fnValuesUptoCard : Claim7 := { stood := { row := fnValuesUptoRow, standIns := [], harness := (true, "0c6a91f7d155a0f1dc839e6c11144eed5e39ae27670af0ae7c8eb5d9812e56a6"), looks := true }, kinds := [], alts := [], laidByText := true, laidKinds := [.data, .data, .data, .sentinel, .sentinel], laidTests := true, laidLooks := .later }
def FnValuesUptoCardSaid : Prop := Claim7.holds Tryd.pinned (.plain (OpenSpec.upto fnValuesSpec)) fnValuesUptoCard

/-- THE SECOND FORM's CARD OF 'laws.FnParts'. -/
def fnPartsUptoCard : Claim7 := { stood := { row := fnPartsUptoRow, standIns := [], harness := (true, "0c6a91f7d155a0f1dc839e6c11144eed5e39ae27670af0ae7c8eb5d9812e56a6"), looks := true }, kinds := [], alts := [], laidByText := true, laidKinds := [.data, .data, .data, .sentinel, .sentinel], laidTests := true, laidLooks := .later }
def FnPartsUptoCardSaid : Prop := Claim7.holds Tryd.pinned (.plain (OpenSpec.upto fnPartsSpec)) fnPartsUptoCard

/-- THE SECOND FORM's CARD OF 'laws.FnExactIsPlain'. -/
def fnExactIsPlainUptoCard : Claim7 := { stood := { row := fnExactIsPlainUptoRow, standIns := [], harness := (true, "0c6a91f7d155a0f1dc839e6c11144eed5e39ae27670af0ae7c8eb5d9812e56a6"), looks := true }, kinds := [], alts := [], laidByText := true, laidKinds := [.data, .data, .data, .sentinel, .sentinel], laidTests := true, laidLooks := .later }
def FnExactIsPlainUptoCardSaid : Prop := Claim7.holds Tryd.pinned (.plain (OpenSpec.upto fnExactIsPlainSpec)) fnExactIsPlainUptoCard

/-- THE SECOND FORM's CARD OF 'laws.FnExactIsStart'. -/
def fnExactIsStartUptoCard : Claim7 := { stood := { row := fnExactIsStartUptoRow, standIns := [], harness := (true, "0c6a91f7d155a0f1dc839e6c11144eed5e39ae27670af0ae7c8eb5d9812e56a6"), looks := true }, kinds := [], alts := [], laidByText := true, laidKinds := [.data, .data, .data, .sentinel, .sentinel], laidTests := true, laidLooks := .later }
def FnExactIsStartUptoCardSaid : Prop := Claim7.holds Tryd.pinned (.plain (OpenSpec.upto fnExactIsStartSpec)) fnExactIsStartUptoCard

/-- THE SECOND FORM's CARD OF 'laws.FnExactPartsOf'. -/
def fnExactPartsOfUptoCard : Claim7 := { stood := { row := fnExactPartsOfUptoRow, standIns := [], harness := (true, "0c6a91f7d155a0f1dc839e6c11144eed5e39ae27670af0ae7c8eb5d9812e56a6"), looks := true }, kinds := [], alts := [], laidByText := true, laidKinds := [.data, .data, .data, .sentinel, .sentinel], laidTests := true, laidLooks := .later }
def FnExactPartsOfUptoCardSaid : Prop := Claim7.holds Tryd.pinned (.plain (OpenSpec.upto fnExactPartsOfSpec)) fnExactPartsOfUptoCard

/-- THE SECOND FORM's CARD OF 'laws.FnExactShowSum'. -/
def fnExactShowSumUptoCard : Claim7 := { stood := { row := fnExactShowSumUptoRow, standIns := [], harness := (true, "0c6a91f7d155a0f1dc839e6c11144eed5e39ae27670af0ae7c8eb5d9812e56a6"), looks := true }, kinds := [], alts := [], laidByText := true, laidKinds := [.data, .data, .data, .sentinel, .sentinel], laidTests := true, laidLooks := .later }
def FnExactShowSumUptoCardSaid : Prop := Claim7.holds Tryd.pinned (.plain (OpenSpec.upto fnExactShowSumSpec)) fnExactShowSumUptoCard

/-- THE SECOND FORM's CARD OF 'laws.FnExactReadSum'. -/
def fnExactReadSumUptoCard : Claim7 := { stood := { row := fnExactReadSumUptoRow, standIns := [], harness := (true, "0c6a91f7d155a0f1dc839e6c11144eed5e39ae27670af0ae7c8eb5d9812e56a6"), looks := true }, kinds := [], alts := [], laidByText := true, laidKinds := [.data, .data, .data, .data, .sentinel, .sentinel, .pinned], laidTests := true, laidLooks := .later }
def FnExactReadSumUptoCardSaid : Prop := Claim7.holds Tryd.pinned (.plain (OpenSpec.upto fnExactReadSumSpec)) fnExactReadSumUptoCard

/-- THE SECOND FORM's CARD OF 'laws.FnExactWordsIn'. -/
def fnExactWordsInUptoCard : Claim7 := { stood := { row := fnExactWordsInUptoRow, standIns := [], harness := (true, "0c6a91f7d155a0f1dc839e6c11144eed5e39ae27670af0ae7c8eb5d9812e56a6"), looks := true }, kinds := [], alts := [], laidByText := true, laidKinds := [.data, .data, .data, .sentinel, .sentinel], laidTests := true, laidLooks := .later }
def FnExactWordsInUptoCardSaid : Prop := Claim7.holds Tryd.pinned (.plain (OpenSpec.upto fnExactWordsInSpec)) fnExactWordsInUptoCard

/-- THE SECOND FORM's CARD OF 'laws.FnExactDepthOf'. -/
def fnExactDepthOfUptoCard : Claim7 := { stood := { row := fnExactDepthOfUptoRow, standIns := [], harness := (true, "0c6a91f7d155a0f1dc839e6c11144eed5e39ae27670af0ae7c8eb5d9812e56a6"), looks := true }, kinds := [], alts := [], laidByText := true, laidKinds := [.data, .data, .data, .sentinel, .sentinel], laidTests := true, laidLooks := .later }
def FnExactDepthOfUptoCardSaid : Prop := Claim7.holds Tryd.pinned (.plain (OpenSpec.upto fnExactDepthOfSpec)) fnExactDepthOfUptoCard
end Rows
end Go.Proofs.YtgcjmhecnbhhlaaDoor
