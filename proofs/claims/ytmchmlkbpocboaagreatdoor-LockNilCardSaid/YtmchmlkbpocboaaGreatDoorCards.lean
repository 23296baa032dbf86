/-
  DERIVED. GIVEN WITH THE SEED: THE CARDS: each row of YtmchmlkbpocboaaGreatDoorRows.lean that lists a variable, with what it lists TIED to the program's text (the seventh form; the later family's looks); each row that meets fmt, with fmt's text TOLD by the authors' own Lean function (tested against real Go, not proved from fmt's source: count such statements apart). THE CARD IS WHAT COUNTS. Prove the row's statement (the work); the ties are given (YtmchmlkbpocboaaGreatDoorTie.lean); close each card by the builder's one call (the guide's Derived/Test/ToyasCard.lean, 'card_holds'). Laid BY PROGRAM, IN A SANDBOX (cutbox-door.mjs). By AI agents, Wed Nov 11 2026. No macro, syntax, notation, axiom, sorry.
-/
import Derived.Test.YtmchmlkbpocboaaGreatDoorRows
import GoSem.ClaimSeven
namespace Go.Proofs.YtmchmlkbpocboaaGreatDoor
namespace Rows

/-- THE TIED CARD OF 'byroadlaw09.LockPlays'. -/
def lockPlaysCard : Claim7 := { stood := { row := lockPlaysRow, standIns := [], harness := (true, "2777515c90fbe669e279510ffa78e5b753f84502135ff8bfba3458683ca79dc9"), looks := true }, kinds := [], alts := [], laidByText := true, laidKinds := [.handle], laidTests := true, laidLooks := .later }
def LockPlaysCardSaid : Prop := Claim7.holds Tryz.pinned (.plain (OpenSpec.ofChange lockPlaysSpec)) lockPlaysCard

/-- THE TIED CARD OF 'byroadlaw09.LockTogether'. -/
def lockTogetherCard : Claim7 := { stood := { row := lockTogetherRow, standIns := [], harness := (true, "2777515c90fbe669e279510ffa78e5b753f84502135ff8bfba3458683ca79dc9"), looks := true }, kinds := [], alts := [], laidByText := true, laidKinds := [.handle], laidTests := true, laidLooks := .later }
def LockTogetherCardSaid : Prop := Claim7.holds Tryz.pinned (.plain (OpenSpec.ofChange lockTogetherSpec)) lockTogetherCard

/-- THE TIED CARD OF 'byroadlaw09.LockEnds'. -/
def lockEndsCard : Claim7 := { stood := { row := lockEndsRow, standIns := [], harness := (true, "2777515c90fbe669e279510ffa78e5b753f84502135ff8bfba3458683ca79dc9"), looks := true }, kinds := [], alts := [], laidByText := true, laidKinds := [.handle], laidTests := true, laidLooks := .later }
def LockEndsCardSaid : Prop := Claim7.holds Tryz.pinned (.plain (OpenSpec.ofChange lockEndsSpec)) lockEndsCard

/-- THE TIED CARD OF 'byroadlaw09.LockNil'. -/
def lockNilCard : Claim7 := { stood := { row := lockNilRow, standIns := [], harness := (true, "2777515c90fbe669e279510ffa78e5b753f84502135ff8bfba3458683ca79dc9"), looks := true }, kinds := [], alts := [], laidByText := true, laidKinds := [.handle], laidTests := true, laidLooks := .later }
def LockNilCardSaid : Prop := Claim7.holds Tryz.pinned (.plain (OpenSpec.ofChange lockNilSpec)) lockNilCard

/-- THE TIED CARD OF 'byroadlaw09.LockFair'. -/
def lockFairCard : Claim7 := { stood := { row := lockFairRow, standIns := [], harness := (true, "2777515c90fbe669e279510ffa78e5b753f84502135ff8bfba3458683ca79dc9"), looks := true }, kinds := [], alts := [], laidByText := true, laidKinds := [.handle], laidTests := true, laidLooks := .later }
def LockFairCardSaid : Prop := Claim7.holds Tryz.pinned (.plain (OpenSpec.ofChange lockFairSpec)) lockFairCard

/-- THE SECOND FORM's CARD OF 'byroadlaw09.LockPlays'. -/
def lockPlaysUptoCard : Claim7 := { stood := { row := lockPlaysUptoRow, standIns := [], harness := (true, "2777515c90fbe669e279510ffa78e5b753f84502135ff8bfba3458683ca79dc9"), looks := true }, kinds := [], alts := [], laidByText := true, laidKinds := [.handle], laidTests := true, laidLooks := .later }
def LockPlaysUptoCardSaid : Prop := Claim7.holds Tryz.pinned (.plain (OpenSpec.upto lockPlaysSpec)) lockPlaysUptoCard

/-- THE SECOND FORM's CARD OF 'byroadlaw09.LockTogether'. -/
def lockTogetherUptoCard : Claim7 := { stood := { row := lockTogetherUptoRow, standIns := [], harness := (true, "2777515c90fbe669e279510ffa78e5b753f84502135ff8bfba3458683ca79dc9"), looks := true }, kinds := [], alts := [], laidByText := true, laidKinds := [.handle], laidTests := true, laidLooks := .later }
def LockTogetherUptoCardSaid : Prop := Claim7.holds Tryz.pinned (.plain (OpenSpec.upto lockTogetherSpec)) lockTogetherUptoCard

/-- THE SECOND FORM's CARD OF 'byroadlaw09.LockEnds'. -/
def lockEndsUptoCard : Claim7 := { stood := { row := lockEndsUptoRow, standIns := [], harness := (true, "2777515c90fbe669e279510ffa78e5b753f84502135ff8bfba3458683ca79dc9"), looks := true }, kinds := [], alts := [], laidByText := true, laidKinds := [.handle], laidTests := true, laidLooks := .later }
def LockEndsUptoCardSaid : Prop := Claim7.holds Tryz.pinned (.plain (OpenSpec.upto lockEndsSpec)) lockEndsUptoCard

/-- THE SECOND FORM's CARD OF 'byroadlaw09.LockNil'. -/
def lockNilUptoCard : Claim7 := { stood := { row := lockNilUptoRow, standIns := [], harness := (true, "2777515c90fbe669e279510ffa78e5b753f84502135ff8bfba3458683ca79dc9"), looks := true }, kinds := [], alts := [], laidByText := true, laidKinds := [.handle], laidTests := true, laidLooks := .later }
def LockNilUptoCardSaid : Prop := Claim7.holds Tryz.pinned (.plain (OpenSpec.upto lockNilSpec)) lockNilUptoCard

/-- THE SECOND FORM's CARD OF 'byroadlaw09.LockFair'. -/
def lockFairUptoCard : Claim7 := { stood := { row := lockFairUptoRow, standIns := [], harness := (true, "2777515c90fbe669e279510ffa78e5b753f84502135ff8bfba3458683ca79dc9"), looks := true }, kinds := [], alts := [], laidByText := true, laidKinds := [.handle], laidTests := true, laidLooks := .later }
def LockFairUptoCardSaid : Prop := Claim7.holds Tryz.pinned (.plain (OpenSpec.upto lockFairSpec)) lockFairUptoCard
end Rows
end Go.Proofs.YtmchmlkbpocboaaGreatDoor
