/-
  DERIVED. GIVEN WITH THE SEED: THE CARDS: each row of YtpamadnckijfkadDoorRows.lean that lists a variable, with what it lists TIED to the program's text (the seventh form; the later family's looks); each row that meets fmt, with fmt's text TOLD by the authors' own Lean function (tested against real Go, not proved from fmt's source: count such statements apart). THE CARD IS WHAT COUNTS. Prove the row's statement (the work); the ties are given (YtpamadnckijfkadDoorTie.lean); close each card by the builder's one call (the guide's Derived/Test/ToyasCard.lean, 'card_holds'). Laid BY PROGRAM, IN A SANDBOX (cutbox-door.mjs). By AI agents, Wed Nov 11 2026. No macro, syntax, notation, axiom, sorry.
-/
import Derived.Test.YtpamadnckijfkadDoorRows
import GoSem.ClaimSeven
namespace Go.Proofs.YtpamadnckijfkadDoor
namespace Rows

/-- THE TIED CARD OF 'scullerylaw.UnifyPuts'. -/
def unifyPutsCard : Claim7 := { stood := { row := unifyPutsRow, standIns := [], harness := (true, "cdc09ac5ea1bd729f749b6dd95dfdfef061550593b55dcd9af3cb044272d8c07"), looks := false }, kinds := [], alts := [], laidByText := true, laidKinds := [.data, .pinned], laidTests := true, laidLooks := .later }
def UnifyPutsCardSaid : Prop := Claim7.holds Tryd.pinned (.plain (OpenSpec.ofChange unifyPutsSpec)) unifyPutsCard

/-- THE TIED CARD OF 'scullerylaw.UnifyAlls'. -/
def unifyAllsCard : Claim7 := { stood := { row := unifyAllsRow, standIns := [], harness := (true, "cdc09ac5ea1bd729f749b6dd95dfdfef061550593b55dcd9af3cb044272d8c07"), looks := false }, kinds := [], alts := [], laidByText := true, laidKinds := [.data, .pinned], laidTests := true, laidLooks := .later }
def UnifyAllsCardSaid : Prop := Claim7.holds Tryd.pinned (.plain (OpenSpec.ofChange unifyAllsSpec)) unifyAllsCard

/-- THE TIED CARD OF 'scullerykeep.MatchesPut'. -/
def matchesPutCard : Claim7 := { stood := { row := matchesPutRow, standIns := [], harness := (true, "cdc09ac5ea1bd729f749b6dd95dfdfef061550593b55dcd9af3cb044272d8c07"), looks := false }, kinds := [], alts := [], laidByText := true, laidKinds := [.data, .pinned], laidTests := true, laidLooks := .later }
def MatchesPutCardSaid : Prop := Claim7.holds Tryd.pinned (.plain (OpenSpec.ofChange matchesPutSpec)) matchesPutCard

/-- THE SECOND FORM's CARD OF 'scullerylaw.UnifyPuts'. -/
def unifyPutsUptoCard : Claim7 := { stood := { row := unifyPutsUptoRow, standIns := [], harness := (true, "cdc09ac5ea1bd729f749b6dd95dfdfef061550593b55dcd9af3cb044272d8c07"), looks := false }, kinds := [], alts := [], laidByText := true, laidKinds := [.data, .pinned], laidTests := true, laidLooks := .later }
def UnifyPutsUptoCardSaid : Prop := Claim7.holds Tryd.pinned (.plain (OpenSpec.upto unifyPutsSpec)) unifyPutsUptoCard

/-- THE SECOND FORM's CARD OF 'scullerylaw.UnifyAlls'. -/
def unifyAllsUptoCard : Claim7 := { stood := { row := unifyAllsUptoRow, standIns := [], harness := (true, "cdc09ac5ea1bd729f749b6dd95dfdfef061550593b55dcd9af3cb044272d8c07"), looks := false }, kinds := [], alts := [], laidByText := true, laidKinds := [.data, .pinned], laidTests := true, laidLooks := .later }
def UnifyAllsUptoCardSaid : Prop := Claim7.holds Tryd.pinned (.plain (OpenSpec.upto unifyAllsSpec)) unifyAllsUptoCard

/-- THE SECOND FORM's CARD OF 'scullerykeep.MatchesPut'. -/
def matchesPutUptoCard : Claim7 := { stood := { row := matchesPutUptoRow, standIns := [], harness := (true, "cdc09ac5ea1bd729f749b6dd95dfdfef061550593b55dcd9af3cb044272d8c07"), looks := false }, kinds := [], alts := [], laidByText := true, laidKinds := [.data, .pinned], laidTests := true, laidLooks := .later }
def MatchesPutUptoCardSaid : Prop := Claim7.holds Tryd.pinned (.plain (OpenSpec.upto matchesPutSpec)) matchesPutUptoCard
end Rows
end Go.Proofs.YtpamadnckijfkadDoor
