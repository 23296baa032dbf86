/-
  DERIVED. GIVEN WITH THE SEED: THE CARDS: each row of YtkkfgdibficifaaDoorRows.lean that lists a variable, with what it lists TIED to the program's text (the seventh form; the later family's looks); each row that meets fmt, with fmt's text TOLD by the authors' own Lean function (tested against real Go, not proved from fmt's source: count such statements apart). THE CARD IS WHAT COUNTS. Prove the row's statement (the work); the ties are given (YtkkfgdibficifaaDoorTie.lean); close each card by the builder's one call (the guide's Derived/Test/ToyasCard.lean, 'card_holds'). Laid BY PROGRAM, IN A SANDBOX (cutbox-door.mjs). By AI agents, Wed Nov 11 2026. No macro, syntax, notation, axiom, sorry.
-/
import Derived.Test.YtkkfgdibficifaaDoorRows
import GoSem.ClaimSeven
namespace Go.Proofs.YtkkfgdibficifaaDoor
namespace Rows

/-- THE TIED CARD OF 'byroadlaw08.PageHolds'. -/
def pageHoldsCard : Claim7 := { stood := { row := pageHoldsRow, standIns := [], harness := (true, "4d5ac7cd6d36a272c1d9692d3f86f8101a2daab77c39dfd2c65498254c1b46e9"), looks := true }, kinds := [], alts := [], laidByText := true, laidKinds := [.handle], laidTests := true, laidLooks := .later }
def PageHoldsCardSaid : Prop := Claim7.holds Tryd.pinned (.plain (OpenSpec.ofChange pageHoldsSpec)) pageHoldsCard

/-- THE TIED CARD OF 'byroadlaw08.PageMost'. -/
def pageMostCard : Claim7 := { stood := { row := pageMostRow, standIns := [], harness := (true, "4d5ac7cd6d36a272c1d9692d3f86f8101a2daab77c39dfd2c65498254c1b46e9"), looks := true }, kinds := [], alts := [], laidByText := true, laidKinds := [.handle], laidTests := true, laidLooks := .later }
def PageMostCardSaid : Prop := Claim7.holds Tryd.pinned (.plain (OpenSpec.ofChange pageMostSpec)) pageMostCard

/-- THE TIED CARD OF 'byroadlaw08.PageNil'. -/
def pageNilCard : Claim7 := { stood := { row := pageNilRow, standIns := [], harness := (true, "4d5ac7cd6d36a272c1d9692d3f86f8101a2daab77c39dfd2c65498254c1b46e9"), looks := true }, kinds := [], alts := [], laidByText := true, laidKinds := [.handle], laidTests := true, laidLooks := .later }
def PageNilCardSaid : Prop := Claim7.holds Tryd.pinned (.plain (OpenSpec.ofChange pageNilSpec)) pageNilCard

/-- THE SECOND FORM's CARD OF 'byroadlaw08.PageHolds'. -/
def pageHoldsUptoCard : Claim7 := { stood := { row := pageHoldsUptoRow, standIns := [], harness := (true, "4d5ac7cd6d36a272c1d9692d3f86f8101a2daab77c39dfd2c65498254c1b46e9"), looks := true }, kinds := [], alts := [], laidByText := true, laidKinds := [.handle], laidTests := true, laidLooks := .later }
def PageHoldsUptoCardSaid : Prop := Claim7.holds Tryd.pinned (.plain (OpenSpec.upto pageHoldsSpec)) pageHoldsUptoCard

/-- THE SECOND FORM's CARD OF 'byroadlaw08.PageMost'. -/
def pageMostUptoCard : Claim7 := { stood := { row := pageMostUptoRow, standIns := [], harness := (true, "4d5ac7cd6d36a272c1d9692d3f86f8101a2daab77c39dfd2c65498254c1b46e9"), looks := true }, kinds := [], alts := [], laidByText := true, laidKinds := [.handle], laidTests := true, laidLooks := .later }
def PageMostUptoCardSaid : Prop := Claim7.holds Tryd.pinned (.plain (OpenSpec.upto pageMostSpec)) pageMostUptoCard

/-- THE SECOND FORM's CARD OF 'byroadlaw08.PageNil'. -/
def pageNilUptoCard : Claim7 := { stood := { row := pageNilUptoRow, standIns := [], harness := (true, "4d5ac7cd6d36a272c1d9692d3f86f8101a2daab77c39dfd2c65498254c1b46e9"), looks := true }, kinds := [], alts := [], laidByText := true, laidKinds := [.handle], laidTests := true, laidLooks := .later }
def PageNilUptoCardSaid : Prop := Claim7.holds Tryd.pinned (.plain (OpenSpec.upto pageNilSpec)) pageNilUptoCard
end Rows
end Go.Proofs.YtkkfgdibficifaaDoor
