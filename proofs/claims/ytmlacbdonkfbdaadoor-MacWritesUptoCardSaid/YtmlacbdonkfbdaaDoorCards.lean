/-
  DERIVED. GIVEN WITH THE SEED: THE CARDS: each row of YtmlacbdonkfbdaaDoorRows.lean that lists a variable, with what it lists TIED to the program's text (the seventh form; the later family's looks); each row that meets fmt, with fmt's text TOLD by the authors' own Lean function (tested against real Go, not proved from fmt's source: count such statements apart). THE CARD IS WHAT COUNTS. Prove the row's statement (the work); the ties are given (YtmlacbdonkfbdaaDoorTie.lean); close each card by the builder's one call (the guide's Derived/Test/ToyasCard.lean, 'card_holds'). Laid BY PROGRAM, IN A SANDBOX (cutbox-door.mjs). By AI agents, Wed Nov 11 2026. No macro, syntax, notation, axiom, sorry.
-/
import Derived.Test.YtmlacbdonkfbdaaDoorRows
import GoSem.ClaimSeven
namespace Go.Proofs.YtmlacbdonkfbdaaDoor
namespace Rows

/-- THE TIED CARD OF 'watchwordlaw05.MacSums'. -/
def macSumsCard : Claim7 := { stood := { row := macSumsRow, standIns := [], harness := (true, "e4f111111af0b3091ab71c6899e1b06b80bf32b50f5233ef2e6fa99e9ad76672"), looks := false }, kinds := [], alts := [], laidByText := true, laidKinds := [.data, .data], laidTests := true, laidLooks := .later }
def MacSumsCardSaid : Prop := Claim7.holds Tryd.pinned (.plain (OpenSpec.ofChange macSumsSpec)) macSumsCard

/-- THE TIED CARD OF 'watchwordlaw05.MacChecks'. -/
def macChecksCard : Claim7 := { stood := { row := macChecksRow, standIns := [], harness := (true, "e4f111111af0b3091ab71c6899e1b06b80bf32b50f5233ef2e6fa99e9ad76672"), looks := false }, kinds := [], alts := [], laidByText := true, laidKinds := [.data, .data], laidTests := true, laidLooks := .later }
def MacChecksCardSaid : Prop := Claim7.holds Tryd.pinned (.plain (OpenSpec.ofChange macChecksSpec)) macChecksCard

/-- THE TIED CARD OF 'watchwordlaw05.MacWrites'. -/
def macWritesCard : Claim7 := { stood := { row := macWritesRow, standIns := [], harness := (true, "e4f111111af0b3091ab71c6899e1b06b80bf32b50f5233ef2e6fa99e9ad76672"), looks := false }, kinds := [], alts := [], laidByText := true, laidKinds := [.data, .data], laidTests := true, laidLooks := .later }
def MacWritesCardSaid : Prop := Claim7.holds Tryd.pinned (.plain (OpenSpec.ofChange macWritesSpec)) macWritesCard

/-- THE TIED CARD OF 'watchwordlaw05.MacDivides'. -/
def macDividesCard : Claim7 := { stood := { row := macDividesRow, standIns := [], harness := (true, "e4f111111af0b3091ab71c6899e1b06b80bf32b50f5233ef2e6fa99e9ad76672"), looks := false }, kinds := [], alts := [], laidByText := true, laidKinds := [.data], laidTests := true, laidLooks := .later }
def MacDividesCardSaid : Prop := Claim7.holds Tryd.pinned (.plain (OpenSpec.ofChange macDividesSpec)) macDividesCard

/-- THE TIED CARD OF 'watchwordlaw05.MacNone'. -/
def macNoneCard : Claim7 := { stood := { row := macNoneRow, standIns := [], harness := (true, "e4f111111af0b3091ab71c6899e1b06b80bf32b50f5233ef2e6fa99e9ad76672"), looks := false }, kinds := [], alts := [], laidByText := true, laidKinds := [.data], laidTests := true, laidLooks := .later }
def MacNoneCardSaid : Prop := Claim7.holds Tryd.pinned (.plain (OpenSpec.ofChange macNoneSpec)) macNoneCard

/-- THE SECOND FORM's CARD OF 'watchwordlaw05.MacSums'. -/
def macSumsUptoCard : Claim7 := { stood := { row := macSumsUptoRow, standIns := [], harness := (true, "e4f111111af0b3091ab71c6899e1b06b80bf32b50f5233ef2e6fa99e9ad76672"), looks := false }, kinds := [], alts := [], laidByText := true, laidKinds := [.data, .data], laidTests := true, laidLooks := .later }
def MacSumsUptoCardSaid : Prop := Claim7.holds Tryd.pinned (.plain (OpenSpec.upto macSumsSpec)) macSumsUptoCard

/-- THE SECOND FORM's CARD OF 'watchwordlaw05.MacChecks'. -/
def macChecksUptoCard : Claim7 := { stood := { row := macChecksUptoRow, standIns := [], harness := (true, "e4f111111af0b3091ab71c6899e1b06b80bf32b50f5233ef2e6fa99e9ad76672"), looks := false }, kinds := [], alts := [], laidByText := true, laidKinds := [.data, .data], laidTests := true, laidLooks := .later }
def MacChecksUptoCardSaid : Prop := Claim7.holds Tryd.pinned (.plain (OpenSpec.upto macChecksSpec)) macChecksUptoCard

/-- THE SECOND FORM's CARD OF 'watchwordlaw05.MacWrites'. -/
def macWritesUptoCard : Claim7 := { stood := { row := macWritesUptoRow, standIns := [], harness := (true, "e4f111111af0b3091ab71c6899e1b06b80bf32b50f5233ef2e6fa99e9ad76672"), looks := false }, kinds := [], alts := [], laidByText := true, laidKinds := [.data, .data], laidTests := true, laidLooks := .later }
def MacWritesUptoCardSaid : Prop := Claim7.holds Tryd.pinned (.plain (OpenSpec.upto macWritesSpec)) macWritesUptoCard

/-- THE SECOND FORM's CARD OF 'watchwordlaw05.MacDivides'. -/
def macDividesUptoCard : Claim7 := { stood := { row := macDividesUptoRow, standIns := [], harness := (true, "e4f111111af0b3091ab71c6899e1b06b80bf32b50f5233ef2e6fa99e9ad76672"), looks := false }, kinds := [], alts := [], laidByText := true, laidKinds := [.data], laidTests := true, laidLooks := .later }
def MacDividesUptoCardSaid : Prop := Claim7.holds Tryd.pinned (.plain (OpenSpec.upto macDividesSpec)) macDividesUptoCard

/-- THE SECOND FORM's CARD OF 'watchwordlaw05.MacNone'. -/
def macNoneUptoCard : Claim7 := { stood := { row := macNoneUptoRow, standIns := [], harness := (true, "e4f111111af0b3091ab71c6899e1b06b80bf32b50f5233ef2e6fa99e9ad76672"), looks := false }, kinds := [], alts := [], laidByText := true, laidKinds := [.data], laidTests := true, laidLooks := .later }
def MacNoneUptoCardSaid : Prop := Claim7.holds Tryd.pinned (.plain (OpenSpec.upto macNoneSpec)) macNoneUptoCard
end Rows
end Go.Proofs.YtmlacbdonkfbdaaDoor
