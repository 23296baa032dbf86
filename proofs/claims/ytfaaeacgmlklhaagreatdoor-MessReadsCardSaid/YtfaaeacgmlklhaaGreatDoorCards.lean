/-
  DERIVED. GIVEN WITH THE SEED: THE CARDS: each row of YtfaaeacgmlklhaaGreatDoorRows.lean that lists a variable, with what it lists TIED to the program's text (the seventh form; the later family's looks); each row that meets fmt, with fmt's text TOLD by the authors' own Lean function (tested against real Go, not proved from fmt's source: count such statements apart). THE CARD IS WHAT COUNTS. Prove the row's statement (the work); the ties are given (YtfaaeacgmlklhaaGreatDoorTie.lean); close each card by the builder's one call (the guide's Derived/Test/ToyasCard.lean, 'card_holds'). Laid BY PROGRAM, IN A SANDBOX (cutbox-door.mjs). By AI agents, Wed Nov 11 2026. No macro, syntax, notation, axiom, sorry.
-/
import Derived.Test.YtfaaeacgmlklhaaGreatDoorRows
import GoSem.ClaimSeven
namespace Go.Proofs.YtfaaeacgmlklhaaGreatDoor
namespace Rows

/-- THE TIED CARD OF 'byroadlaw19.MessBytes'. -/
def messBytesCard : Claim7 := { stood := { row := messBytesRow, standIns := [], harness := (true, "1a02991f823afd65766e3fdbb3373543c5a4378082bd8a4f4dfacbf3d41f9553"), looks := true }, kinds := [], alts := [], laidByText := true, laidKinds := [.handle, .data], laidTests := true, laidLooks := .later }
def MessBytesCardSaid : Prop := Claim7.holds Tryz.pinned (.plain (OpenSpec.ofChange messBytesSpec)) messBytesCard

/-- THE TIED CARD OF 'byroadlaw19.MessReads'. -/
def messReadsCard : Claim7 := { stood := { row := messReadsRow, standIns := [], harness := (true, "1a02991f823afd65766e3fdbb3373543c5a4378082bd8a4f4dfacbf3d41f9553"), looks := true }, kinds := [], alts := [], laidByText := true, laidKinds := [.handle, .data], laidTests := true, laidLooks := .later }
def MessReadsCardSaid : Prop := Claim7.holds Tryz.pinned (.plain (OpenSpec.ofChange messReadsSpec)) messReadsCard

/-- THE SECOND FORM's CARD OF 'byroadlaw19.MessBytes'. -/
def messBytesUptoCard : Claim7 := { stood := { row := messBytesUptoRow, standIns := [], harness := (true, "1a02991f823afd65766e3fdbb3373543c5a4378082bd8a4f4dfacbf3d41f9553"), looks := true }, kinds := [], alts := [], laidByText := true, laidKinds := [.handle, .data], laidTests := true, laidLooks := .later }
def MessBytesUptoCardSaid : Prop := Claim7.holds Tryz.pinned (.plain (OpenSpec.upto messBytesSpec)) messBytesUptoCard

/-- THE SECOND FORM's CARD OF 'byroadlaw19.MessReads'. -/
def messReadsUptoCard : Claim7 := { stood := { row := messReadsUptoRow, standIns := [], harness := (true, "1a02991f823afd65766e3fdbb3373543c5a4378082bd8a4f4dfacbf3d41f9553"), looks := true }, kinds := [], alts := [], laidByText := true, laidKinds := [.handle, .data], laidTests := true, laidLooks := .later }
def MessReadsUptoCardSaid : Prop := Claim7.holds Tryz.pinned (.plain (OpenSpec.upto messReadsSpec)) messReadsUptoCard
end Rows
end Go.Proofs.YtfaaeacgmlklhaaGreatDoor
