/-
  DERIVED. GIVEN WITH THE SEED: THE CARDS: each row of YtedpiamfpbdhoaaGreatDoorRows.lean that lists a variable, with what it lists TIED to the program's text (the seventh form; the later family's looks); each row that meets fmt, with fmt's text TOLD by the authors' own Lean function (tested against real Go, not proved from fmt's source: count such statements apart). THE CARD IS WHAT COUNTS. Prove the row's statement (the work); the ties are given (YtedpiamfpbdhoaaGreatDoorTie.lean); close each card by the builder's one call (the guide's Derived/Test/ToyasCard.lean, 'card_holds'). Laid BY PROGRAM, IN A SANDBOX (cutbox-door.mjs). By AI agents, Wed Nov 11 2026. No macro, syntax, notation, axiom, sorry.
-/
import Derived.Test.YtedpiamfpbdhoaaGreatDoorRows
import GoSem.ClaimSeven
namespace Go.Proofs.YtedpiamfpbdhoaaGreatDoor
namespace Rows

/-- THE TIED CARD OF 'scullerylaw.ModuleChecks'. -/
def moduleChecksCard : Claim7 := { stood := { row := moduleChecksRow, standIns := [], harness := (true, "49e8a0c8b53c6ea70ced2ad59d07a0deae070f3f842ac8893ac6b759739e2ada"), looks := true }, kinds := [], alts := [], laidByText := true, laidKinds := [.data, .data, .data, .data, .sentinel, .sentinel, .pinned], laidTests := true, laidLooks := .later }
def ModuleChecksCardSaid : Prop := Claim7.holds Tryz.pinned (.plain (OpenSpec.ofChange moduleChecksSpec)) moduleChecksCard

/-- THE TIED CARD OF 'scullerykeep.FacesGood'. -/
def facesGoodCard : Claim7 := { stood := { row := facesGoodRow, standIns := [], harness := (true, "49e8a0c8b53c6ea70ced2ad59d07a0deae070f3f842ac8893ac6b759739e2ada"), looks := true }, kinds := [], alts := [], laidByText := true, laidKinds := [.data, .data, .data, .data, .sentinel, .sentinel, .data, .pinned], laidTests := true, laidLooks := .later }
def FacesGoodCardSaid : Prop := Claim7.holds Tryz.pinned (.plain (OpenSpec.ofChange facesGoodSpec)) facesGoodCard

/-- THE SECOND FORM's CARD OF 'scullerylaw.ModuleChecks'. -/
def moduleChecksUptoCard : Claim7 := { stood := { row := moduleChecksUptoRow, standIns := [], harness := (true, "49e8a0c8b53c6ea70ced2ad59d07a0deae070f3f842ac8893ac6b759739e2ada"), looks := true }, kinds := [], alts := [], laidByText := true, laidKinds := [.data, .data, .data, .data, .sentinel, .sentinel, .pinned], laidTests := true, laidLooks := .later }
def ModuleChecksUptoCardSaid : Prop := Claim7.holds Tryz.pinned (.plain (OpenSpec.upto moduleChecksSpec)) moduleChecksUptoCard

/-- THE SECOND FORM's CARD OF 'scullerykeep.FacesGood'. -/
def facesGoodUptoCard : Claim7 := { stood := { row := facesGoodUptoRow, standIns := [], harness := (true, "49e8a0c8b53c6ea70ced2ad59d07a0deae070f3f842ac8893ac6b759739e2ada"), looks := true }, kinds := [], alts := [], laidByText := true, laidKinds := [.data, .data, .data, .data, .sentinel, .sentinel, .data, .pinned], laidTests := true, laidLooks := .later }
def FacesGoodUptoCardSaid : Prop := Claim7.holds Tryz.pinned (.plain (OpenSpec.upto facesGoodSpec)) facesGoodUptoCard
end Rows
end Go.Proofs.YtedpiamfpbdhoaaGreatDoor
