/-
  NARROWER THAN 'FOR EVERY INPUT', by the rows' own cells (each row's printed sentence says how): AliasUses: loops · AliasSolves: loops · AliasTypes: loops · SignOnes: loops · BodyOnes: loops.
  DERIVED. THE GIVEN ROWS OF THIS SEAT. 5 by the template 'for every input the law returns true; each argument reads behind the call as it read before'; 0 by the template 'total and deterministic' (their statements: YtkdailcadcfepafTotals.lean).
  GIVEN WITH THE SEED: the statements are not yours to turn. If you find one false, say at which input.
  Laid BY PROGRAM, IN A SANDBOX (cutbox-rows.mjs): the forced cells as the released guide's own fill.sh prints them over the translation 20b25bc60f799e26… (all of the seat's roots in one cut). By AI agents, Wed Nov 11 2026. No macro, syntax, notation, axiom, sorry.
-/
import Derived.Test.YtkdailcadcfepafChecked
import GoSem.Claim
import GoSem.ClaimJoined
import GoSem.ClaimMapViews
import Derived.JoinedTies
import Derived.KernelRfl
namespace Go.Proofs.Ytkdailcadcfepaf
/- THE CELL 'sum', in the pinned program and in every row, IS THE sha256 OF THE DUMP (.gsa) THAT YtkdailcadcfepafProg.lean LOADS. Nothing in Lean hashes anything: it is a label: what it is worth is what the hold of that sum in a sandbox is worth. -/
noncomputable def Try.pinned : Pinned := { name := "ytkdailcadcfepaf", sum := "20b25bc60f799e265a7872e16177bfd8dfbf42ae4964d7647d1b8c80dc966f6d", checked := Try.checked }
namespace Rows
def none {H : Type} : Left H := { results := [], args := [] }

/-- 'scullerylaw.AliasUses': WHATEVER THE INPUT: true; the input reads as it did. -/
def aliasUsesSpec : ChangeSpec := { name := "aliasUses", fn := fun _ => fun
  | [d1, d2] => { results := [.lit (.bool true)], args := [d1, d2] }
  | _ => none }
def aliasUsesRow : OpenClaim := { program := "ytkdailcadcfepaf", sum := "20b25bc60f799e265a7872e16177bfd8dfbf42ae4964d7647d1b8c80dc966f6d", func := "scullery/scullerylaw.AliasUses", spec := "aliasUses", unfollowed := true, recurses := true, loops := true, apart := false }
def AliasUsesSaid : Prop := aliasUsesRow.holds Try.pinned (OpenSpec.ofChange aliasUsesSpec)

/-- ITS FALSE NEIGHBOUR: 'it returns false'. Refute it at one input. -/
def aliasUsesWrong : ChangeSpec := { name := "aliasUses", fn := fun _ => fun
  | [d1, d2] => { results := [.lit (.bool false)], args := [d1, d2] }
  | _ => none }
def AliasUsesWrongFalsely : Prop := aliasUsesRow.holds Try.pinned (OpenSpec.ofChange aliasUsesWrong)

/-- 'scullerylaw.AliasSolves': WHATEVER THE INPUT: true; the input reads as it did. -/
def aliasSolvesSpec : ChangeSpec := { name := "aliasSolves", fn := fun _ => fun
  | [d1, d2, d3, d4] => { results := [.lit (.bool true)], args := [d1, d2, d3, d4] }
  | _ => none }
def aliasSolvesRow : OpenClaim := { program := "ytkdailcadcfepaf", sum := "20b25bc60f799e265a7872e16177bfd8dfbf42ae4964d7647d1b8c80dc966f6d", func := "scullery/scullerylaw.AliasSolves", spec := "aliasSolves", unfollowed := true, recurses := true, loops := true, apart := false }
def AliasSolvesSaid : Prop := aliasSolvesRow.holds Try.pinned (OpenSpec.ofChange aliasSolvesSpec)

/-- ITS FALSE NEIGHBOUR: 'it returns false'. Refute it at one input. -/
def aliasSolvesWrong : ChangeSpec := { name := "aliasSolves", fn := fun _ => fun
  | [d1, d2, d3, d4] => { results := [.lit (.bool false)], args := [d1, d2, d3, d4] }
  | _ => none }
def AliasSolvesWrongFalsely : Prop := aliasSolvesRow.holds Try.pinned (OpenSpec.ofChange aliasSolvesWrong)

/-- 'scullerylaw.AliasTypes': WHATEVER THE INPUT: true; the input reads as it did. -/
def aliasTypesSpec : ChangeSpec := { name := "aliasTypes", fn := fun _ => fun
  | [d1, d2] => { results := [.lit (.bool true)], args := [d1, d2] }
  | _ => none }
def aliasTypesRow : OpenClaim := { program := "ytkdailcadcfepaf", sum := "20b25bc60f799e265a7872e16177bfd8dfbf42ae4964d7647d1b8c80dc966f6d", func := "scullery/scullerylaw.AliasTypes", spec := "aliasTypes", inPlace := ["internal/bytealg.abigen_runtime_cmpstring"], unfollowed := true, recurses := true, loops := true, apart := false }
def AliasTypesSaid : Prop := aliasTypesRow.holds Try.pinned (OpenSpec.ofChange aliasTypesSpec)

/-- ITS FALSE NEIGHBOUR: 'it returns false'. Refute it at one input. -/
def aliasTypesWrong : ChangeSpec := { name := "aliasTypes", fn := fun _ => fun
  | [d1, d2] => { results := [.lit (.bool false)], args := [d1, d2] }
  | _ => none }
def AliasTypesWrongFalsely : Prop := aliasTypesRow.holds Try.pinned (OpenSpec.ofChange aliasTypesWrong)

/-- 'scullerylaw.SignOnes': WHATEVER THE INPUT: true; the input reads as it did. -/
def signOnesSpec : ChangeSpec := { name := "signOnes", fn := fun _ => fun
  | [d1, d2, d3] => { results := [.lit (.bool true)], args := [d1, d2, d3] }
  | _ => none }
def signOnesRow : OpenClaim := { program := "ytkdailcadcfepaf", sum := "20b25bc60f799e265a7872e16177bfd8dfbf42ae4964d7647d1b8c80dc966f6d", func := "scullery/scullerylaw.SignOnes", spec := "signOnes", unfollowed := true, recurses := true, loops := true, apart := false }
def SignOnesSaid : Prop := signOnesRow.holds Try.pinned (OpenSpec.ofChange signOnesSpec)

/-- ITS FALSE NEIGHBOUR: 'it returns false'. Refute it at one input. -/
def signOnesWrong : ChangeSpec := { name := "signOnes", fn := fun _ => fun
  | [d1, d2, d3] => { results := [.lit (.bool false)], args := [d1, d2, d3] }
  | _ => none }
def SignOnesWrongFalsely : Prop := signOnesRow.holds Try.pinned (OpenSpec.ofChange signOnesWrong)

/-- 'scullerylaw.BodyOnes': WHATEVER THE INPUT: true; the input reads as it did. -/
def bodyOnesSpec : ChangeSpec := { name := "bodyOnes", fn := fun _ => fun
  | [d1, d2, d3, d4] => { results := [.lit (.bool true)], args := [d1, d2, d3, d4] }
  | _ => none }
def bodyOnesRow : OpenClaim := { program := "ytkdailcadcfepaf", sum := "20b25bc60f799e265a7872e16177bfd8dfbf42ae4964d7647d1b8c80dc966f6d", func := "scullery/scullerylaw.BodyOnes", spec := "bodyOnes", recurses := true, loops := true, apart := false }
def BodyOnesSaid : Prop := bodyOnesRow.holds Try.pinned (OpenSpec.ofChange bodyOnesSpec)

/-- ITS FALSE NEIGHBOUR: 'it returns false'. Refute it at one input. -/
def bodyOnesWrong : ChangeSpec := { name := "bodyOnes", fn := fun _ => fun
  | [d1, d2, d3, d4] => { results := [.lit (.bool false)], args := [d1, d2, d3, d4] }
  | _ => none }
def BodyOnesWrongFalsely : Prop := bodyOnesRow.holds Try.pinned (OpenSpec.ofChange bodyOnesWrong)

/- THE SECOND FORM. 'bulk': how many values and letters a reading holds, each counted each time it is reached (what is shared counts as often as it is met; a slice's spare places count too). A statement '..UptoSaid' is the law's where the arguments, and the package variables that the reading takes, are together of bulk at most 1048576: NARROWER than '..Said'. Prove '..Said' where nothing that the law and all that it calls make is longer than what came in: it says more and counts as full. Else prove '..UptoSaid'. A law counts once. -/
mutual
def uptoBulk {H : Type} : DataW H → Nat
  | .lit (.string bytes) => bytes.length + 1
  | .lit _ => 1
  | .nil => 1
  | .ptr d => uptoBulk d + 1
  | .slice elems spare => uptoBulkAll elems + uptoBulkAll spare + 1
  | .agg parts => uptoBulkAll parts + 1
  | .iface _ d => uptoBulk d + 1
  | .map entries => uptoBulkEntries entries + 1
  | .held _ => 1
def uptoBulkAll {H : Type} : List (DataW H) → Nat
  | [] => 0
  | d :: r => uptoBulk d + uptoBulkAll r
def uptoBulkEntries {H : Type} : List (Lit × DataW H) → Nat
  | [] => 0
  | x :: r => uptoBulkEntry x + uptoBulkEntries r
def uptoBulkEntry {H : Type} : Lit × DataW H → Nat
  | (.string bytes, d) => bytes.length + uptoBulk d + 1
  | (_, d) => uptoBulk d + 1
 end
def uptoSmall : (H : Type) → List (DataW H) → Bool := fun _ ds => decide (uptoBulkAll ds ≤ 1048576)
def OpenSpec.upto (s : _root_.Go.ChangeSpec) : _root_.Go.OpenSpec := { _root_.Go.OpenSpec.ofChange s with cond := some uptoSmall }

/-- 'scullerylaw.AliasUses', WHERE WHAT IT READS IS OF BULK AT MOST 1048576: true; the input reads as it did. -/
def aliasUsesUptoRow : OpenClaim := { program := "ytkdailcadcfepaf", sum := "20b25bc60f799e265a7872e16177bfd8dfbf42ae4964d7647d1b8c80dc966f6d", func := "scullery/scullerylaw.AliasUses", spec := "aliasUses", unfollowed := true, recurses := true, loops := true, apart := false, narrowed := true }
def AliasUsesUptoSaid : Prop := aliasUsesUptoRow.holds Try.pinned (OpenSpec.upto aliasUsesSpec)

/-- 'scullerylaw.AliasSolves', WHERE WHAT IT READS IS OF BULK AT MOST 1048576: true; the input reads as it did. -/
def aliasSolvesUptoRow : OpenClaim := { program := "ytkdailcadcfepaf", sum := "20b25bc60f799e265a7872e16177bfd8dfbf42ae4964d7647d1b8c80dc966f6d", func := "scullery/scullerylaw.AliasSolves", spec := "aliasSolves", unfollowed := true, recurses := true, loops := true, apart := false, narrowed := true }
def AliasSolvesUptoSaid : Prop := aliasSolvesUptoRow.holds Try.pinned (OpenSpec.upto aliasSolvesSpec)

/-- 'scullerylaw.AliasTypes', WHERE WHAT IT READS IS OF BULK AT MOST 1048576: true; the input reads as it did. -/
def aliasTypesUptoRow : OpenClaim := { program := "ytkdailcadcfepaf", sum := "20b25bc60f799e265a7872e16177bfd8dfbf42ae4964d7647d1b8c80dc966f6d", func := "scullery/scullerylaw.AliasTypes", spec := "aliasTypes", inPlace := ["internal/bytealg.abigen_runtime_cmpstring"], unfollowed := true, recurses := true, loops := true, apart := false, narrowed := true }
def AliasTypesUptoSaid : Prop := aliasTypesUptoRow.holds Try.pinned (OpenSpec.upto aliasTypesSpec)

/-- 'scullerylaw.SignOnes', WHERE WHAT IT READS IS OF BULK AT MOST 1048576: true; the input reads as it did. -/
def signOnesUptoRow : OpenClaim := { program := "ytkdailcadcfepaf", sum := "20b25bc60f799e265a7872e16177bfd8dfbf42ae4964d7647d1b8c80dc966f6d", func := "scullery/scullerylaw.SignOnes", spec := "signOnes", unfollowed := true, recurses := true, loops := true, apart := false, narrowed := true }
def SignOnesUptoSaid : Prop := signOnesUptoRow.holds Try.pinned (OpenSpec.upto signOnesSpec)

/-- 'scullerylaw.BodyOnes', WHERE WHAT IT READS IS OF BULK AT MOST 1048576: true; the input reads as it did. -/
def bodyOnesUptoRow : OpenClaim := { program := "ytkdailcadcfepaf", sum := "20b25bc60f799e265a7872e16177bfd8dfbf42ae4964d7647d1b8c80dc966f6d", func := "scullery/scullerylaw.BodyOnes", spec := "bodyOnes", recurses := true, loops := true, apart := false, narrowed := true }
def BodyOnesUptoSaid : Prop := bodyOnesUptoRow.holds Try.pinned (OpenSpec.upto bodyOnesSpec)

end Rows
end Go.Proofs.Ytkdailcadcfepaf
