/-
  DERIVED. GIVEN WITH THE SEED: THE CARDS: each row of YtponcidmipkodaaDoorRows.lean that lists a variable, with what it lists TIED to the program's text (the seventh form; the later family's looks); each row that meets fmt, with fmt's text TOLD by the authors' own Lean function (tested against real Go, not proved from fmt's source: count such statements apart). THE CARD IS WHAT COUNTS. Prove the row's statement (the work); the ties are given (YtponcidmipkodaaDoorTie.lean); close each card by the builder's one call (the guide's Derived/Test/ToyasCard.lean, 'card_holds'). Laid BY PROGRAM, IN A SANDBOX (cutbox-door.mjs). By AI agents, Wed Nov 11 2026. No macro, syntax, notation, axiom, sorry.
-/
import Derived.Test.YtponcidmipkodaaDoorRows
import GoSem.ClaimSeven
namespace Go.Proofs.YtponcidmipkodaaDoor
namespace Rows

/-- THE TIED CARD OF 'byroadlaw03.CrcSums'. -/
def crcSumsCard : Claim7 := { stood := { row := crcSumsRow, standIns := [], harness := (true, "d8220c9e60348878d79d95352663360015e697d42deb1e4bcde284d908c98158"), looks := true }, kinds := [], alts := [], laidByText := true, laidKinds := [.data], laidTests := true, laidLooks := .later }
def CrcSumsCardSaid : Prop := Claim7.holds Tryd.pinned (.plain (OpenSpec.ofChange crcSumsSpec)) crcSumsCard

/-- THE TIED CARD OF 'byroadlaw03.CrcWraps'. -/
def crcWrapsCard : Claim7 := { stood := { row := crcWrapsRow, standIns := [], harness := (true, "d8220c9e60348878d79d95352663360015e697d42deb1e4bcde284d908c98158"), looks := true }, kinds := [], alts := [], laidByText := true, laidKinds := [.data], laidTests := true, laidLooks := .later }
def CrcWrapsCardSaid : Prop := Claim7.holds Tryd.pinned (.plain (OpenSpec.ofChange crcWrapsSpec)) crcWrapsCard

/-- THE TIED CARD OF 'byroadlaw03.CrcReads'. -/
def crcReadsCard : Claim7 := { stood := { row := crcReadsRow, standIns := [], harness := (true, "d8220c9e60348878d79d95352663360015e697d42deb1e4bcde284d908c98158"), looks := true }, kinds := [], alts := [], laidByText := true, laidKinds := [.data], laidTests := true, laidLooks := .later }
def CrcReadsCardSaid : Prop := Claim7.holds Tryd.pinned (.plain (OpenSpec.ofChange crcReadsSpec)) crcReadsCard

/-- THE TIED CARD OF 'byroadlaw03.CrcBit'. -/
def crcBitCard : Claim7 := { stood := { row := crcBitRow, standIns := [], harness := (true, "d8220c9e60348878d79d95352663360015e697d42deb1e4bcde284d908c98158"), looks := true }, kinds := [], alts := [], laidByText := true, laidKinds := [.data], laidTests := true, laidLooks := .later }
def CrcBitCardSaid : Prop := Claim7.holds Tryd.pinned (.plain (OpenSpec.ofChange crcBitSpec)) crcBitCard

/-- THE TIED CARD OF 'byroadlaw03.CrcCuts'. -/
def crcCutsCard : Claim7 := { stood := { row := crcCutsRow, standIns := [], harness := (true, "d8220c9e60348878d79d95352663360015e697d42deb1e4bcde284d908c98158"), looks := true }, kinds := [], alts := [], laidByText := true, laidKinds := [.data], laidTests := true, laidLooks := .later }
def CrcCutsCardSaid : Prop := Claim7.holds Tryd.pinned (.plain (OpenSpec.ofChange crcCutsSpec)) crcCutsCard

/-- THE TIED CARD OF 'byroadlaw03.CrcMost'. -/
def crcMostCard : Claim7 := { stood := { row := crcMostRow, standIns := [], harness := (true, "d8220c9e60348878d79d95352663360015e697d42deb1e4bcde284d908c98158"), looks := true }, kinds := [], alts := [], laidByText := true, laidKinds := [.data], laidTests := true, laidLooks := .later }
def CrcMostCardSaid : Prop := Claim7.holds Tryd.pinned (.plain (OpenSpec.ofChange crcMostSpec)) crcMostCard

/-- THE TIED CARD OF 'byroadlaw04.TapeMany'. -/
def tapeManyCard : Claim7 := { stood := { row := tapeManyRow, standIns := [], harness := (true, "d8220c9e60348878d79d95352663360015e697d42deb1e4bcde284d908c98158"), looks := true }, kinds := [], alts := [], laidByText := true, laidKinds := [.handle], laidTests := true, laidLooks := .later }
def TapeManyCardSaid : Prop := Claim7.holds Tryd.pinned (.plain (OpenSpec.ofChange tapeManySpec)) tapeManyCard

/-- THE TIED CARD OF 'byroadlaw04.TapeNil'. -/
def tapeNilCard : Claim7 := { stood := { row := tapeNilRow, standIns := [], harness := (true, "d8220c9e60348878d79d95352663360015e697d42deb1e4bcde284d908c98158"), looks := true }, kinds := [], alts := [], laidByText := true, laidKinds := [.handle], laidTests := true, laidLooks := .later }
def TapeNilCardSaid : Prop := Claim7.holds Tryd.pinned (.plain (OpenSpec.ofChange tapeNilSpec)) tapeNilCard

/-- THE SECOND FORM's CARD OF 'byroadlaw03.CrcSums'. -/
def crcSumsUptoCard : Claim7 := { stood := { row := crcSumsUptoRow, standIns := [], harness := (true, "d8220c9e60348878d79d95352663360015e697d42deb1e4bcde284d908c98158"), looks := true }, kinds := [], alts := [], laidByText := true, laidKinds := [.data], laidTests := true, laidLooks := .later }
def CrcSumsUptoCardSaid : Prop := Claim7.holds Tryd.pinned (.plain (OpenSpec.upto crcSumsSpec)) crcSumsUptoCard

/-- THE SECOND FORM's CARD OF 'byroadlaw03.CrcWraps'. -/
def crcWrapsUptoCard : Claim7 := { stood := { row := crcWrapsUptoRow, standIns := [], harness := (true, "d8220c9e60348878d79d95352663360015e697d42deb1e4bcde284d908c98158"), looks := true }, kinds := [], alts := [], laidByText := true, laidKinds := [.data], laidTests := true, laidLooks := .later }
def CrcWrapsUptoCardSaid : Prop := Claim7.holds Tryd.pinned (.plain (OpenSpec.upto crcWrapsSpec)) crcWrapsUptoCard

/-- THE SECOND FORM's CARD OF 'byroadlaw03.CrcReads'. -/
def crcReadsUptoCard : Claim7 := { stood := { row := crcReadsUptoRow, standIns := [], harness := (true, "d8220c9e60348878d79d95352663360015e697d42deb1e4bcde284d908c98158"), looks := true }, kinds := [], alts := [], laidByText := true, laidKinds := [.data], laidTests := true, laidLooks := .later }
def CrcReadsUptoCardSaid : Prop := Claim7.holds Tryd.pinned (.plain (OpenSpec.upto crcReadsSpec)) crcReadsUptoCard

/-- THE SECOND FORM's CARD OF 'byroadlaw03.CrcBit'. -/
def crcBitUptoCard : Claim7 := { stood := { row := crcBitUptoRow, standIns := [], harness := (true, "d8220c9e60348878d79d95352663360015e697d42deb1e4bcde284d908c98158"), looks := true }, kinds := [], alts := [], laidByText := true, laidKinds := [.data], laidTests := true, laidLooks := .later }
def CrcBitUptoCardSaid : Prop := Claim7.holds Tryd.pinned (.plain (OpenSpec.upto crcBitSpec)) crcBitUptoCard

/-- THE SECOND FORM's CARD OF 'byroadlaw03.CrcCuts'. -/
def crcCutsUptoCard : Claim7 := { stood := { row := crcCutsUptoRow, standIns := [], harness := (true, "d8220c9e60348878d79d95352663360015e697d42deb1e4bcde284d908c98158"), looks := true }, kinds := [], alts := [], laidByText := true, laidKinds := [.data], laidTests := true, laidLooks := .later }
def CrcCutsUptoCardSaid : Prop := Claim7.holds Tryd.pinned (.plain (OpenSpec.upto crcCutsSpec)) crcCutsUptoCard

/-- THE SECOND FORM's CARD OF 'byroadlaw03.CrcMost'. -/
def crcMostUptoCard : Claim7 := { stood := { row := crcMostUptoRow, standIns := [], harness := (true, "d8220c9e60348878d79d95352663360015e697d42deb1e4bcde284d908c98158"), looks := true }, kinds := [], alts := [], laidByText := true, laidKinds := [.data], laidTests := true, laidLooks := .later }
def CrcMostUptoCardSaid : Prop := Claim7.holds Tryd.pinned (.plain (OpenSpec.upto crcMostSpec)) crcMostUptoCard

/-- THE SECOND FORM's CARD OF 'byroadlaw04.TapeMany'. -/
def tapeManyUptoCard : Claim7 := { stood := { row := tapeManyUptoRow, standIns := [], harness := (true, "d8220c9e60348878d79d95352663360015e697d42deb1e4bcde284d908c98158"), looks := true }, kinds := [], alts := [], laidByText := true, laidKinds := [.handle], laidTests := true, laidLooks := .later }
def TapeManyUptoCardSaid : Prop := Claim7.holds Tryd.pinned (.plain (OpenSpec.upto tapeManySpec)) tapeManyUptoCard

/-- THE SECOND FORM's CARD OF 'byroadlaw04.TapeNil'. -/
def tapeNilUptoCard : Claim7 := { stood := { row := tapeNilUptoRow, standIns := [], harness := (true, "d8220c9e60348878d79d95352663360015e697d42deb1e4bcde284d908c98158"), looks := true }, kinds := [], alts := [], laidByText := true, laidKinds := [.handle], laidTests := true, laidLooks := .later }
def TapeNilUptoCardSaid : Prop := Claim7.holds Tryd.pinned (.plain (OpenSpec.upto tapeNilSpec)) tapeNilUptoCard
end Rows
end Go.Proofs.YtponcidmipkodaaDoor
