/-
  DERIVED. GIVEN WITH THE SEED: THE CARDS: each row of YtjcdbjapadgdfaaDoorRows.lean that lists a variable, with what it lists TIED to the program's text (the seventh form; the later family's looks); each row that meets fmt, with fmt's text TOLD by the authors' own Lean function (tested against real Go, not proved from fmt's source: count such statements apart). THE CARD IS WHAT COUNTS. Prove the row's statement (the work); the ties are given (YtjcdbjapadgdfaaDoorTie.lean); close each card by the builder's one call (the guide's Derived/Test/ToyasCard.lean, 'card_holds'). Laid BY PROGRAM, IN A SANDBOX (cutbox-door.mjs). By AI agents, Wed Nov 11 2026. No macro, syntax, notation, axiom, sorry.
-/
import Derived.Test.YtjcdbjapadgdfaaDoorRows
import GoSem.ClaimSeven
namespace Go.Proofs.YtjcdbjapadgdfaaDoor
namespace Rows

/-- THE TIED CARD OF 'watchwordlaw07.CtsTexts'. -/
def ctsTextsCard : Claim7 := { stood := { row := ctsTextsRow, standIns := [], harness := (true, "ee3791432b5e5956388fb418c53514962e74e3c619226ef0bf13a97e89037e60"), looks := false }, kinds := [], alts := [], laidByText := true, laidKinds := [.data], laidTests := true, laidLooks := .later }
def CtsTextsCardSaid : Prop := Claim7.holds Tryd.pinned (.plain (OpenSpec.ofChange ctsTextsSpec)) ctsTextsCard

/-- THE TIED CARD OF 'watchwordlaw07.CtsChains'. -/
def ctsChainsCard : Claim7 := { stood := { row := ctsChainsRow, standIns := [], harness := (true, "ee3791432b5e5956388fb418c53514962e74e3c619226ef0bf13a97e89037e60"), looks := false }, kinds := [], alts := [], laidByText := true, laidKinds := [.data], laidTests := true, laidLooks := .later }
def CtsChainsCardSaid : Prop := Claim7.holds Tryd.pinned (.plain (OpenSpec.ofChange ctsChainsSpec)) ctsChainsCard

/-- THE SECOND FORM's CARD OF 'watchwordlaw07.CtsTexts'. -/
def ctsTextsUptoCard : Claim7 := { stood := { row := ctsTextsUptoRow, standIns := [], harness := (true, "ee3791432b5e5956388fb418c53514962e74e3c619226ef0bf13a97e89037e60"), looks := false }, kinds := [], alts := [], laidByText := true, laidKinds := [.data], laidTests := true, laidLooks := .later }
def CtsTextsUptoCardSaid : Prop := Claim7.holds Tryd.pinned (.plain (OpenSpec.upto ctsTextsSpec)) ctsTextsUptoCard

/-- THE SECOND FORM's CARD OF 'watchwordlaw07.CtsChains'. -/
def ctsChainsUptoCard : Claim7 := { stood := { row := ctsChainsUptoRow, standIns := [], harness := (true, "ee3791432b5e5956388fb418c53514962e74e3c619226ef0bf13a97e89037e60"), looks := false }, kinds := [], alts := [], laidByText := true, laidKinds := [.data], laidTests := true, laidLooks := .later }
def CtsChainsUptoCardSaid : Prop := Claim7.holds Tryd.pinned (.plain (OpenSpec.upto ctsChainsSpec)) ctsChainsUptoCard
end Rows
end Go.Proofs.YtjcdbjapadgdfaaDoor
