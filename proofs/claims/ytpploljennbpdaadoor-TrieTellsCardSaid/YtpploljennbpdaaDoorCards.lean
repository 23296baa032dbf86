/-
  DERIVED. GIVEN WITH THE SEED: THE CARDS: each row of YtpploljennbpdaaDoorRows.lean that lists a variable, with what it lists TIED to the program's text (the seventh form; the later family's looks); each row that meets fmt, with fmt's text TOLD by the authors' own Lean function (tested against real Go, not proved from fmt's source: count such statements apart). THE CARD IS WHAT COUNTS. Prove the row's statement (the work); the ties are given (YtpploljennbpdaaDoorTie.lean); close each card by the builder's one call (the guide's Derived/Test/ToyasCard.lean, 'card_holds'). Laid BY PROGRAM, IN A SANDBOX (cutbox-door.mjs). By AI agents, Wed Nov 11 2026. No macro, syntax, notation, axiom, sorry.
-/
import Derived.Test.YtpploljennbpdaaDoorRows
import GoSem.ClaimSeven
namespace Go.Proofs.YtpploljennbpdaaDoor
namespace Rows

/-- THE TIED CARD OF 'byroadlaw24.TrieBuilds'. -/
def trieBuildsCard : Claim7 := { stood := { row := trieBuildsRow, standIns := [], harness := (true, "82b821c1d66996c0d1f4221bff1973efad4889c395bf37cb2ec5523f6470ebcf"), looks := true }, kinds := [], alts := [], laidByText := true, laidKinds := [.handle], laidTests := true, laidLooks := .later }
def TrieBuildsCardSaid : Prop := Claim7.holds Tryd.pinned (.plain (OpenSpec.ofChange trieBuildsSpec)) trieBuildsCard

/-- THE TIED CARD OF 'byroadlaw24.TrieTells'. -/
def trieTellsCard : Claim7 := { stood := { row := trieTellsRow, standIns := [], harness := (true, "82b821c1d66996c0d1f4221bff1973efad4889c395bf37cb2ec5523f6470ebcf"), looks := true }, kinds := [], alts := [], laidByText := true, laidKinds := [.handle], laidTests := true, laidLooks := .later }
def TrieTellsCardSaid : Prop := Claim7.holds Tryd.pinned (.plain (OpenSpec.ofChange trieTellsSpec)) trieTellsCard

/-- THE TIED CARD OF 'byroadlaw24.TriePaths'. -/
def triePathsCard : Claim7 := { stood := { row := triePathsRow, standIns := [], harness := (true, "82b821c1d66996c0d1f4221bff1973efad4889c395bf37cb2ec5523f6470ebcf"), looks := true }, kinds := [], alts := [], laidByText := true, laidKinds := [.handle], laidTests := true, laidLooks := .later }
def TriePathsCardSaid : Prop := Claim7.holds Tryd.pinned (.plain (OpenSpec.ofChange triePathsSpec)) triePathsCard

/-- THE SECOND FORM's CARD OF 'byroadlaw24.TrieBuilds'. -/
def trieBuildsUptoCard : Claim7 := { stood := { row := trieBuildsUptoRow, standIns := [], harness := (true, "82b821c1d66996c0d1f4221bff1973efad4889c395bf37cb2ec5523f6470ebcf"), looks := true }, kinds := [], alts := [], laidByText := true, laidKinds := [.handle], laidTests := true, laidLooks := .later }
def TrieBuildsUptoCardSaid : Prop := Claim7.holds Tryd.pinned (.plain (OpenSpec.upto trieBuildsSpec)) trieBuildsUptoCard

/-- THE SECOND FORM's CARD OF 'byroadlaw24.TrieTells'. -/
def trieTellsUptoCard : Claim7 := { stood := { row := trieTellsUptoRow, standIns := [], harness := (true, "82b821c1d66996c0d1f4221bff1973efad4889c395bf37cb2ec5523f6470ebcf"), looks := true }, kinds := [], alts := [], laidByText := true, laidKinds := [.handle], laidTests := true, laidLooks := .later }
def TrieTellsUptoCardSaid : Prop := Claim7.holds Tryd.pinned (.plain (OpenSpec.upto trieTellsSpec)) trieTellsUptoCard

/-- THE SECOND FORM's CARD OF 'byroadlaw24.TriePaths'. -/
def triePathsUptoCard : Claim7 := { stood := { row := triePathsUptoRow, standIns := [], harness := (true, "82b821c1d66996c0d1f4221bff1973efad4889c395bf37cb2ec5523f6470ebcf"), looks := true }, kinds := [], alts := [], laidByText := true, laidKinds := [.handle], laidTests := true, laidLooks := .later }
def TriePathsUptoCardSaid : Prop := Claim7.holds Tryd.pinned (.plain (OpenSpec.upto triePathsSpec)) triePathsUptoCard
end Rows
end Go.Proofs.YtpploljennbpdaaDoor
