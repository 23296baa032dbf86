/-
  DERIVED. GIVEN WITH THE SEED: THE CARDS: each row of YtmbonngjkgcijaaGreatDoorRows.lean that lists a variable, with what it lists TIED to the program's text (the seventh form; the later family's looks); each row that meets fmt, with fmt's text TOLD by the authors' own Lean function (tested against real Go, not proved from fmt's source: count such statements apart). THE CARD IS WHAT COUNTS. Prove the row's statement (the work); the ties are given (YtmbonngjkgcijaaGreatDoorTie.lean); close each card by the builder's one call (the guide's Derived/Test/ToyasCard.lean, 'card_holds'). Laid BY PROGRAM, IN A SANDBOX (cutbox-door.mjs). By AI agents, Wed Nov 11 2026. No macro, syntax, notation, axiom, sorry.
-/
import Derived.Test.YtmbonngjkgcijaaGreatDoorRows
import GoSem.ClaimSeven
namespace Go.Proofs.YtmbonngjkgcijaaGreatDoor
namespace Rows

/-- THE TIED CARD OF 'byroadlaw20.NetPlays'. -/
def netPlaysCard : Claim7 := { stood := { row := netPlaysRow, standIns := [], harness := (true, "870f95efb384b9def3955a7332d9ba4eb62f5863b1dbe6e0a781cad40031b143"), looks := true }, kinds := [], alts := [], laidByText := true, laidKinds := [.handle, .data], laidTests := true, laidLooks := .later }
def NetPlaysCardSaid : Prop := Claim7.holds Tryz.pinned (.plain (OpenSpec.ofChange netPlaysSpec)) netPlaysCard

/-- THE TIED CARD OF 'byroadlaw20.NetCarries'. -/
def netCarriesCard : Claim7 := { stood := { row := netCarriesRow, standIns := [], harness := (true, "870f95efb384b9def3955a7332d9ba4eb62f5863b1dbe6e0a781cad40031b143"), looks := true }, kinds := [], alts := [], laidByText := true, laidKinds := [.handle, .data], laidTests := true, laidLooks := .later }
def NetCarriesCardSaid : Prop := Claim7.holds Tryz.pinned (.plain (OpenSpec.ofChange netCarriesSpec)) netCarriesCard

/-- THE TIED CARD OF 'byroadlaw20.NetNil'. -/
def netNilCard : Claim7 := { stood := { row := netNilRow, standIns := [], harness := (true, "870f95efb384b9def3955a7332d9ba4eb62f5863b1dbe6e0a781cad40031b143"), looks := true }, kinds := [], alts := [], laidByText := true, laidKinds := [.handle, .data], laidTests := true, laidLooks := .later }
def NetNilCardSaid : Prop := Claim7.holds Tryz.pinned (.plain (OpenSpec.ofChange netNilSpec)) netNilCard

/-- THE TIED CARD OF 'byroadlaw20.NetOrder'. -/
def netOrderCard : Claim7 := { stood := { row := netOrderRow, standIns := [], harness := (true, "870f95efb384b9def3955a7332d9ba4eb62f5863b1dbe6e0a781cad40031b143"), looks := true }, kinds := [], alts := [], laidByText := true, laidKinds := [.handle, .data], laidTests := true, laidLooks := .later }
def NetOrderCardSaid : Prop := Claim7.holds Tryz.pinned (.plain (OpenSpec.ofChange netOrderSpec)) netOrderCard

/-- THE TIED CARD OF 'byroadlaw21.PostPlays'. -/
def postPlaysCard : Claim7 := { stood := { row := postPlaysRow, standIns := [], harness := (true, "870f95efb384b9def3955a7332d9ba4eb62f5863b1dbe6e0a781cad40031b143"), looks := true }, kinds := [], alts := [], laidByText := true, laidKinds := [.handle], laidTests := true, laidLooks := .later }
def PostPlaysCardSaid : Prop := Claim7.holds Tryz.pinned (.plain (OpenSpec.ofChange postPlaysSpec)) postPlaysCard

/-- THE TIED CARD OF 'byroadlaw21.PostFits'. -/
def postFitsCard : Claim7 := { stood := { row := postFitsRow, standIns := [], harness := (true, "870f95efb384b9def3955a7332d9ba4eb62f5863b1dbe6e0a781cad40031b143"), looks := true }, kinds := [], alts := [], laidByText := true, laidKinds := [.handle], laidTests := true, laidLooks := .later }
def PostFitsCardSaid : Prop := Claim7.holds Tryz.pinned (.plain (OpenSpec.ofChange postFitsSpec)) postFitsCard

/-- THE TIED CARD OF 'byroadlaw21.PostAgain'. -/
def postAgainCard : Claim7 := { stood := { row := postAgainRow, standIns := [], harness := (true, "870f95efb384b9def3955a7332d9ba4eb62f5863b1dbe6e0a781cad40031b143"), looks := true }, kinds := [], alts := [], laidByText := true, laidKinds := [.handle], laidTests := true, laidLooks := .later }
def PostAgainCardSaid : Prop := Claim7.holds Tryz.pinned (.plain (OpenSpec.ofChange postAgainSpec)) postAgainCard

/-- THE TIED CARD OF 'byroadlaw21.PostNil'. -/
def postNilCard : Claim7 := { stood := { row := postNilRow, standIns := [], harness := (true, "870f95efb384b9def3955a7332d9ba4eb62f5863b1dbe6e0a781cad40031b143"), looks := true }, kinds := [], alts := [], laidByText := true, laidKinds := [.handle], laidTests := true, laidLooks := .later }
def PostNilCardSaid : Prop := Claim7.holds Tryz.pinned (.plain (OpenSpec.ofChange postNilSpec)) postNilCard

/-- THE SECOND FORM's CARD OF 'byroadlaw20.NetPlays'. -/
def netPlaysUptoCard : Claim7 := { stood := { row := netPlaysUptoRow, standIns := [], harness := (true, "870f95efb384b9def3955a7332d9ba4eb62f5863b1dbe6e0a781cad40031b143"), looks := true }, kinds := [], alts := [], laidByText := true, laidKinds := [.handle, .data], laidTests := true, laidLooks := .later }
def NetPlaysUptoCardSaid : Prop := Claim7.holds Tryz.pinned (.plain (OpenSpec.upto netPlaysSpec)) netPlaysUptoCard

/-- THE SECOND FORM's CARD OF 'byroadlaw20.NetCarries'. -/
def netCarriesUptoCard : Claim7 := { stood := { row := netCarriesUptoRow, standIns := [], harness := (true, "870f95efb384b9def3955a7332d9ba4eb62f5863b1dbe6e0a781cad40031b143"), looks := true }, kinds := [], alts := [], laidByText := true, laidKinds := [.handle, .data], laidTests := true, laidLooks := .later }
def NetCarriesUptoCardSaid : Prop := Claim7.holds Tryz.pinned (.plain (OpenSpec.upto netCarriesSpec)) netCarriesUptoCard

/-- THE SECOND FORM's CARD OF 'byroadlaw20.NetNil'. -/
def netNilUptoCard : Claim7 := { stood := { row := netNilUptoRow, standIns := [], harness := (true, "870f95efb384b9def3955a7332d9ba4eb62f5863b1dbe6e0a781cad40031b143"), looks := true }, kinds := [], alts := [], laidByText := true, laidKinds := [.handle, .data], laidTests := true, laidLooks := .later }
def NetNilUptoCardSaid : Prop := Claim7.holds Tryz.pinned (.plain (OpenSpec.upto netNilSpec)) netNilUptoCard

/-- THE SECOND FORM's CARD OF 'byroadlaw20.NetOrder'. -/
def netOrderUptoCard : Claim7 := { stood := { row := netOrderUptoRow, standIns := [], harness := (true, "870f95efb384b9def3955a7332d9ba4eb62f5863b1dbe6e0a781cad40031b143"), looks := true }, kinds := [], alts := [], laidByText := true, laidKinds := [.handle, .data], laidTests := true, laidLooks := .later }
def NetOrderUptoCardSaid : Prop := Claim7.holds Tryz.pinned (.plain (OpenSpec.upto netOrderSpec)) netOrderUptoCard

/-- THE SECOND FORM's CARD OF 'byroadlaw21.PostPlays'. -/
def postPlaysUptoCard : Claim7 := { stood := { row := postPlaysUptoRow, standIns := [], harness := (true, "870f95efb384b9def3955a7332d9ba4eb62f5863b1dbe6e0a781cad40031b143"), looks := true }, kinds := [], alts := [], laidByText := true, laidKinds := [.handle], laidTests := true, laidLooks := .later }
def PostPlaysUptoCardSaid : Prop := Claim7.holds Tryz.pinned (.plain (OpenSpec.upto postPlaysSpec)) postPlaysUptoCard

/-- THE SECOND FORM's CARD OF 'byroadlaw21.PostFits'. -/
def postFitsUptoCard : Claim7 := { stood := { row := postFitsUptoRow, standIns := [], harness := (true, "870f95efb384b9def3955a7332d9ba4eb62f5863b1dbe6e0a781cad40031b143"), looks := true }, kinds := [], alts := [], laidByText := true, laidKinds := [.handle], laidTests := true, laidLooks := .later }
def PostFitsUptoCardSaid : Prop := Claim7.holds Tryz.pinned (.plain (OpenSpec.upto postFitsSpec)) postFitsUptoCard

/-- THE SECOND FORM's CARD OF 'byroadlaw21.PostAgain'. -/
def postAgainUptoCard : Claim7 := { stood := { row := postAgainUptoRow, standIns := [], harness := (true, "870f95efb384b9def3955a7332d9ba4eb62f5863b1dbe6e0a781cad40031b143"), looks := true }, kinds := [], alts := [], laidByText := true, laidKinds := [.handle], laidTests := true, laidLooks := .later }
def PostAgainUptoCardSaid : Prop := Claim7.holds Tryz.pinned (.plain (OpenSpec.upto postAgainSpec)) postAgainUptoCard

/-- THE SECOND FORM's CARD OF 'byroadlaw21.PostNil'. -/
def postNilUptoCard : Claim7 := { stood := { row := postNilUptoRow, standIns := [], harness := (true, "870f95efb384b9def3955a7332d9ba4eb62f5863b1dbe6e0a781cad40031b143"), looks := true }, kinds := [], alts := [], laidByText := true, laidKinds := [.handle], laidTests := true, laidLooks := .later }
def PostNilUptoCardSaid : Prop := Claim7.holds Tryz.pinned (.plain (OpenSpec.upto postNilSpec)) postNilUptoCard
end Rows
end Go.Proofs.YtmbonngjkgcijaaGreatDoor
