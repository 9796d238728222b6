/-
  DERIVED. GIVEN WITH THE SEED: THE CARDS: each row of YtfmmokcniechcaaDoorRows.lean that lists a variable, with what it lists TIED to the program's text (the seventh form; the later family's looks); each row that meets fmt, with fmt's text TOLD by the authors' own Lean function (tested against real Go, not proved from fmt's source: count such statements apart). THE CARD IS WHAT COUNTS. Prove the row's statement (the work); the ties are given (YtfmmokcniechcaaDoorTie.lean); close each card by the builder's one call (the guide's Derived/Test/ToyasCard.lean, 'card_holds'). Laid BY PROGRAM, IN A SANDBOX (cutbox-door.mjs). By AI agents, Wed Nov 11 2026. No macro, syntax, notation, axiom, sorry.
-/
import Derived.Test.YtfmmokcniechcaaDoorRows
import GoSem.ClaimSeven
namespace Go.Proofs.YtfmmokcniechcaaDoor
namespace Rows

/-- THE TIED CARD OF 'watchwordlaw06.AesSubstitutes'. -/
def aesSubstitutesCard : Claim7 := { stood := { row := aesSubstitutesRow, standIns := [], harness := (true, "587756f48ad2b7e65cf1743b4987b7404b9c7551ea43fbcdc93b205ad5982e4c"), looks := false }, kinds := [], alts := [], laidByText := true, laidKinds := [.data], laidTests := true, laidLooks := .later }
def AesSubstitutesCardSaid : Prop := Claim7.holds Tryd.pinned (.plain (OpenSpec.ofChange aesSubstitutesSpec)) aesSubstitutesCard

/-- THE TIED CARD OF 'watchwordlaw06.AesKeys'. -/
def aesKeysCard : Claim7 := { stood := { row := aesKeysRow, standIns := [], harness := (true, "587756f48ad2b7e65cf1743b4987b7404b9c7551ea43fbcdc93b205ad5982e4c"), looks := false }, kinds := [], alts := [], laidByText := true, laidKinds := [.data], laidTests := true, laidLooks := .later }
def AesKeysCardSaid : Prop := Claim7.holds Tryd.pinned (.plain (OpenSpec.ofChange aesKeysSpec)) aesKeysCard

/-- THE TIED CARD OF 'watchwordlaw06.AesBlocks'. -/
def aesBlocksCard : Claim7 := { stood := { row := aesBlocksRow, standIns := [], harness := (true, "587756f48ad2b7e65cf1743b4987b7404b9c7551ea43fbcdc93b205ad5982e4c"), looks := false }, kinds := [], alts := [], laidByText := true, laidKinds := [.data], laidTests := true, laidLooks := .later }
def AesBlocksCardSaid : Prop := Claim7.holds Tryd.pinned (.plain (OpenSpec.ofChange aesBlocksSpec)) aesBlocksCard

/-- THE SECOND FORM's CARD OF 'watchwordlaw06.AesSubstitutes'. -/
def aesSubstitutesUptoCard : Claim7 := { stood := { row := aesSubstitutesUptoRow, standIns := [], harness := (true, "587756f48ad2b7e65cf1743b4987b7404b9c7551ea43fbcdc93b205ad5982e4c"), looks := false }, kinds := [], alts := [], laidByText := true, laidKinds := [.data], laidTests := true, laidLooks := .later }
def AesSubstitutesUptoCardSaid : Prop := Claim7.holds Tryd.pinned (.plain (OpenSpec.upto aesSubstitutesSpec)) aesSubstitutesUptoCard

/-- THE SECOND FORM's CARD OF 'watchwordlaw06.AesKeys'. -/
def aesKeysUptoCard : Claim7 := { stood := { row := aesKeysUptoRow, standIns := [], harness := (true, "587756f48ad2b7e65cf1743b4987b7404b9c7551ea43fbcdc93b205ad5982e4c"), looks := false }, kinds := [], alts := [], laidByText := true, laidKinds := [.data], laidTests := true, laidLooks := .later }
def AesKeysUptoCardSaid : Prop := Claim7.holds Tryd.pinned (.plain (OpenSpec.upto aesKeysSpec)) aesKeysUptoCard

/-- THE SECOND FORM's CARD OF 'watchwordlaw06.AesBlocks'. -/
def aesBlocksUptoCard : Claim7 := { stood := { row := aesBlocksUptoRow, standIns := [], harness := (true, "587756f48ad2b7e65cf1743b4987b7404b9c7551ea43fbcdc93b205ad5982e4c"), looks := false }, kinds := [], alts := [], laidByText := true, laidKinds := [.data], laidTests := true, laidLooks := .later }
def AesBlocksUptoCardSaid : Prop := Claim7.holds Tryd.pinned (.plain (OpenSpec.upto aesBlocksSpec)) aesBlocksUptoCard
end Rows
end Go.Proofs.YtfmmokcniechcaaDoor
