/-
  DERIVED. GIVEN WITH THE SEED: THE CARDS: each row of YtmgoabkopacnaacGreatDoorRows.lean that lists a variable, with what it lists TIED to the program's text (the seventh form; the later family's looks); each row that meets fmt, with fmt's text TOLD by the authors' own Lean function (tested against real Go, not proved from fmt's source: count such statements apart). THE CARD IS WHAT COUNTS. Prove the row's statement (the work); the ties are given (YtmgoabkopacnaacGreatDoorTie.lean); close each card by the builder's one call (the guide's Derived/Test/ToyasCard.lean, 'card_holds'). Laid BY PROGRAM, IN A SANDBOX (cutbox-door.mjs). By AI agents, Wed Nov 11 2026. No macro, syntax, notation, axiom, sorry.
-/
import Derived.Test.YtmgoabkopacnaacGreatDoorRows
import GoSem.ClaimSeven
namespace Go.Proofs.YtmgoabkopacnaacGreatDoor
namespace Rows

/-- THE TIED CARD OF 'scullerykeep.TreesBad'. -/
def treesBadCard : Claim7 := { stood := { row := treesBadRow, standIns := [], harness := (true, "6b2792e6b096cf64ee1713a8c9257db6dfaba66bb065561d4ee05c4cf9d37873"), looks := true }, kinds := [], alts := [], laidByText := true, laidKinds := [.data, .data, .data, .data, .sentinel, .sentinel, .pinned], laidTests := true, laidLooks := .later }
def TreesBadCardSaid : Prop := Claim7.holds Tryz.pinned (.plain (OpenSpec.ofChange treesBadSpec)) treesBadCard

/-- THE SECOND FORM's CARD OF 'scullerykeep.TreesBad'. -/
def treesBadUptoCard : Claim7 := { stood := { row := treesBadUptoRow, standIns := [], harness := (true, "6b2792e6b096cf64ee1713a8c9257db6dfaba66bb065561d4ee05c4cf9d37873"), looks := true }, kinds := [], alts := [], laidByText := true, laidKinds := [.data, .data, .data, .data, .sentinel, .sentinel, .pinned], laidTests := true, laidLooks := .later }
def TreesBadUptoCardSaid : Prop := Claim7.holds Tryz.pinned (.plain (OpenSpec.upto treesBadSpec)) treesBadUptoCard
end Rows
end Go.Proofs.YtmgoabkopacnaacGreatDoor
