/-
  DERIVED. GIVEN WITH THE SEED: THE CARDS: each row of YtcpnfkeoajeodaaGreatDoorRows.lean that lists a variable, with what it lists TIED to the program's text (the seventh form; the later family's looks); each row that meets fmt, with fmt's text TOLD by the authors' own Lean function (tested against real Go, not proved from fmt's source: count such statements apart). THE CARD IS WHAT COUNTS. Prove the row's statement (the work); the ties are given (YtcpnfkeoajeodaaGreatDoorTie.lean); close each card by the builder's one call (the guide's Derived/Test/ToyasCard.lean, 'card_holds'). Laid BY PROGRAM, IN A SANDBOX (cutbox-door.mjs). By AI agents, Wed Nov 11 2026. No macro, syntax, notation, axiom, sorry.
-/
import Derived.Test.YtcpnfkeoajeodaaGreatDoorRows
import GoSem.ClaimSeven
namespace Go.Proofs.YtcpnfkeoajeodaaGreatDoor
namespace Rows

/-- THE TIED CARD OF 'scullerylaw.BodyOnes'. -/
def bodyOnesCard : Claim7 := { stood := { row := bodyOnesRow, standIns := [], harness := (true, "ef1eb219813b27990477ef889c6134e57022318fbd02fbf3878200a56876318a"), looks := false }, kinds := [], alts := [], laidByText := true, laidKinds := [.data, .pinned], laidTests := true, laidLooks := .later }
def BodyOnesCardSaid : Prop := Claim7.holds Tryz.pinned (.plain (OpenSpec.ofChange bodyOnesSpec)) bodyOnesCard

/-- THE SECOND FORM's CARD OF 'scullerylaw.BodyOnes'. -/
def bodyOnesUptoCard : Claim7 := { stood := { row := bodyOnesUptoRow, standIns := [], harness := (true, "ef1eb219813b27990477ef889c6134e57022318fbd02fbf3878200a56876318a"), looks := false }, kinds := [], alts := [], laidByText := true, laidKinds := [.data, .pinned], laidTests := true, laidLooks := .later }
def BodyOnesUptoCardSaid : Prop := Claim7.holds Tryz.pinned (.plain (OpenSpec.upto bodyOnesSpec)) bodyOnesUptoCard
end Rows
end Go.Proofs.YtcpnfkeoajeodaaGreatDoor
