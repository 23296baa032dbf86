/-
  DERIVED. GIVEN WITH THE SEED: THE CARDS: each row of YtfaaeacgmlklhaaDoorRows.lean that lists a variable, with what it lists TIED to the program's text (the seventh form; the later family's looks); each row that meets fmt, with fmt's text TOLD by the authors' own Lean function (tested against real Go, not proved from fmt's source: count such statements apart). THE CARD IS WHAT COUNTS. Prove the row's statement (the work); the ties are given (YtfaaeacgmlklhaaDoorTie.lean); close each card by the builder's one call (the guide's Derived/Test/ToyasCard.lean, 'card_holds'). Laid BY PROGRAM, IN A SANDBOX (cutbox-door.mjs). By AI agents, Wed Nov 11 2026. No macro, syntax, notation, axiom, sorry.
-/
import Derived.Test.YtfaaeacgmlklhaaDoorRows
import GoSem.ClaimSeven
namespace Go.Proofs.YtfaaeacgmlklhaaDoor
namespace Rows

/-- THE TIED CARD OF 'byroadlaw19.MessAnswers'. -/
def messAnswersCard : Claim7 := { stood := { row := messAnswersRow, standIns := [], harness := (true, "72a2b7ddf890a73f01568569ec29ec91bed8a65161a2c25d2623abcb0fe3484c"), looks := true }, kinds := [], alts := [], laidByText := true, laidKinds := [.handle, .data], laidTests := true, laidLooks := .later }
def MessAnswersCardSaid : Prop := Claim7.holds Tryd.pinned (.plain (OpenSpec.ofChange messAnswersSpec)) messAnswersCard

/-- THE SECOND FORM's CARD OF 'byroadlaw19.MessAnswers'. -/
def messAnswersUptoCard : Claim7 := { stood := { row := messAnswersUptoRow, standIns := [], harness := (true, "72a2b7ddf890a73f01568569ec29ec91bed8a65161a2c25d2623abcb0fe3484c"), looks := true }, kinds := [], alts := [], laidByText := true, laidKinds := [.handle, .data], laidTests := true, laidLooks := .later }
def MessAnswersUptoCardSaid : Prop := Claim7.holds Tryd.pinned (.plain (OpenSpec.upto messAnswersSpec)) messAnswersUptoCard
end Rows
end Go.Proofs.YtfaaeacgmlklhaaDoor
