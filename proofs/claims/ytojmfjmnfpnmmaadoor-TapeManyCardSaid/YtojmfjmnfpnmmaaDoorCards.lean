/-
  DERIVED. GIVEN WITH THE SEED: THE CARDS: each row of YtojmfjmnfpnmmaaDoorRows.lean that lists a variable, with what it lists TIED to the program's text (the seventh form; the later family's looks); each row that meets fmt, with fmt's text TOLD by the authors' own Lean function (tested against real Go, not proved from fmt's source: count such statements apart). THE CARD IS WHAT COUNTS. Prove the row's statement (the work); the ties are given (YtojmfjmnfpnmmaaDoorTie.lean); close each card by the builder's one call (the guide's Derived/Test/ToyasCard.lean, 'card_holds'). Laid BY PROGRAM, IN A SANDBOX (cutbox-door.mjs). By AI agents, Wed Nov 11 2026. No macro, syntax, notation, axiom, sorry.
-/
import Derived.Test.YtojmfjmnfpnmmaaDoorRows
import GoSem.ClaimSeven
namespace Go.Proofs.YtojmfjmnfpnmmaaDoor
namespace Rows

/-- THE TIED CARD OF 'byroadlaw03.CrcCuts'. -/
def crcCutsCard : Claim7 := { stood := { row := crcCutsRow, standIns := [], harness := (true, "5660169e6397e73d9fdc03cdecbc9ae0caaff9878a0da61ba75174829a2bf7ac"), looks := true }, kinds := [], alts := [], laidByText := true, laidKinds := [.data], laidTests := true, laidLooks := .later }
def CrcCutsCardSaid : Prop := Claim7.holds Tryd.pinned (.plain (OpenSpec.ofChange crcCutsSpec)) crcCutsCard

/-- THE TIED CARD OF 'byroadlaw04.TapeMany'. -/
def tapeManyCard : Claim7 := { stood := { row := tapeManyRow, standIns := [], harness := (true, "5660169e6397e73d9fdc03cdecbc9ae0caaff9878a0da61ba75174829a2bf7ac"), looks := true }, kinds := [], alts := [], laidByText := true, laidKinds := [.handle], laidTests := true, laidLooks := .later }
def TapeManyCardSaid : Prop := Claim7.holds Tryd.pinned (.plain (OpenSpec.ofChange tapeManySpec)) tapeManyCard

/-- THE TIED CARD OF 'byroadlaw04.TapeNil'. -/
def tapeNilCard : Claim7 := { stood := { row := tapeNilRow, standIns := [], harness := (true, "5660169e6397e73d9fdc03cdecbc9ae0caaff9878a0da61ba75174829a2bf7ac"), looks := true }, kinds := [], alts := [], laidByText := true, laidKinds := [.handle], laidTests := true, laidLooks := .later }
def TapeNilCardSaid : Prop := Claim7.holds Tryd.pinned (.plain (OpenSpec.ofChange tapeNilSpec)) tapeNilCard

/-- THE SECOND FORM's CARD OF 'byroadlaw03.CrcCuts'. -/
def crcCutsUptoCard : Claim7 := { stood := { row := crcCutsUptoRow, standIns := [], harness := (true, "5660169e6397e73d9fdc03cdecbc9ae0caaff9878a0da61ba75174829a2bf7ac"), looks := true }, kinds := [], alts := [], laidByText := true, laidKinds := [.data], laidTests := true, laidLooks := .later }
def CrcCutsUptoCardSaid : Prop := Claim7.holds Tryd.pinned (.plain (OpenSpec.upto crcCutsSpec)) crcCutsUptoCard

/-- THE SECOND FORM's CARD OF 'byroadlaw04.TapeMany'. -/
def tapeManyUptoCard : Claim7 := { stood := { row := tapeManyUptoRow, standIns := [], harness := (true, "5660169e6397e73d9fdc03cdecbc9ae0caaff9878a0da61ba75174829a2bf7ac"), looks := true }, kinds := [], alts := [], laidByText := true, laidKinds := [.handle], laidTests := true, laidLooks := .later }
def TapeManyUptoCardSaid : Prop := Claim7.holds Tryd.pinned (.plain (OpenSpec.upto tapeManySpec)) tapeManyUptoCard

/-- THE SECOND FORM's CARD OF 'byroadlaw04.TapeNil'. -/
def tapeNilUptoCard : Claim7 := { stood := { row := tapeNilUptoRow, standIns := [], harness := (true, "5660169e6397e73d9fdc03cdecbc9ae0caaff9878a0da61ba75174829a2bf7ac"), looks := true }, kinds := [], alts := [], laidByText := true, laidKinds := [.handle], laidTests := true, laidLooks := .later }
def TapeNilUptoCardSaid : Prop := Claim7.holds Tryd.pinned (.plain (OpenSpec.upto tapeNilSpec)) tapeNilUptoCard
end Rows
end Go.Proofs.YtojmfjmnfpnmmaaDoor
