/-
  No cell of these rows narrows 'for every input' (looked for: loops, veiled, ifaces, maps, wideKeys, modest, calm, conditions, laid).
  DERIVED. THE GIVEN ROWS OF THIS SEAT. 5 by the template 'for every input the law returns true; each argument reads behind the call as it read before'; 0 by the template 'total and deterministic' (their statements: YtmgoabkopacnaacTotals.lean).
  GIVEN WITH THE SEED: the statements are not yours to turn. If you find one false, say at which input.
  Laid BY PROGRAM, IN A SANDBOX (cutbox-rows.mjs): the forced cells as the released guide's own fill.sh prints them over the translation dc1293bba7094e16… (all of the seat's roots in one cut). By AI agents, Wed Nov 11 2026. No macro, syntax, notation, axiom, sorry.
-/
import Derived.Test.YtmgoabkopacnaacChecked
import GoSem.Claim
import GoSem.ClaimJoined
import GoSem.ClaimMapViews
import Derived.JoinedTies
import Derived.KernelRfl
namespace Go.Proofs.Ytmgoabkopacnaac
/- THE CELL 'sum', in the pinned program and in every row, IS THE sha256 OF THE DUMP (.gsa) THAT YtmgoabkopacnaacProg.lean LOADS. Nothing in Lean hashes anything: it is a label: what it is worth is what the hold of that sum in a sandbox is worth. -/
noncomputable def Try.pinned : Pinned := { name := "ytmgoabkopacnaac", sum := "dc1293bba7094e164fe1502b1e3409543a00e6d06a673832db8e7f09573c9ec3", checked := Try.checked }
namespace Rows
def none {H : Type} : Left H := { results := [], args := [] }

/-- 'scullerylaw.KindElems': WHATEVER THE INPUT: true; the input reads as it did. -/
def kindElemsSpec : ChangeSpec := { name := "kindElems", fn := fun _ => fun
  | [d] => { results := [.lit (.bool true)], args := [d] }
  | _ => none }
def kindElemsRow : OpenClaim := { program := "ytmgoabkopacnaac", sum := "dc1293bba7094e164fe1502b1e3409543a00e6d06a673832db8e7f09573c9ec3", func := "scullery/scullerylaw.KindElems", spec := "kindElems", apart := false }
def KindElemsSaid : Prop := kindElemsRow.holds Try.pinned (OpenSpec.ofChange kindElemsSpec)

/-- ITS FALSE NEIGHBOUR: 'it returns false'. Refute it at one input. -/
def kindElemsWrong : ChangeSpec := { name := "kindElems", fn := fun _ => fun
  | [d] => { results := [.lit (.bool false)], args := [d] }
  | _ => none }
def KindElemsWrongFalsely : Prop := kindElemsRow.holds Try.pinned (OpenSpec.ofChange kindElemsWrong)

/-- 'scullerylaw.KindChecks': WHATEVER THE INPUT: true; the input reads as it did. -/
def kindChecksSpec : ChangeSpec := { name := "kindChecks", fn := fun _ => fun
  | [d] => { results := [.lit (.bool true)], args := [d] }
  | _ => none }
def kindChecksRow : OpenClaim := { program := "ytmgoabkopacnaac", sum := "dc1293bba7094e164fe1502b1e3409543a00e6d06a673832db8e7f09573c9ec3", func := "scullery/scullerylaw.KindChecks", spec := "kindChecks", apart := false }
def KindChecksSaid : Prop := kindChecksRow.holds Try.pinned (OpenSpec.ofChange kindChecksSpec)

/-- ITS FALSE NEIGHBOUR: 'it returns false'. Refute it at one input. -/
def kindChecksWrong : ChangeSpec := { name := "kindChecks", fn := fun _ => fun
  | [d] => { results := [.lit (.bool false)], args := [d] }
  | _ => none }
def KindChecksWrongFalsely : Prop := kindChecksRow.holds Try.pinned (OpenSpec.ofChange kindChecksWrong)

/-- 'scullerylaw.KindLists': WHATEVER THE INPUT: true; the input reads as it did. -/
def kindListsSpec : ChangeSpec := { name := "kindLists", fn := fun _ => fun
  | [d] => { results := [.lit (.bool true)], args := [d] }
  | _ => none }
def kindListsRow : OpenClaim := { program := "ytmgoabkopacnaac", sum := "dc1293bba7094e164fe1502b1e3409543a00e6d06a673832db8e7f09573c9ec3", func := "scullery/scullerylaw.KindLists", spec := "kindLists", apart := false }
def KindListsSaid : Prop := kindListsRow.holds Try.pinned (OpenSpec.ofChange kindListsSpec)

/-- ITS FALSE NEIGHBOUR: 'it returns false'. Refute it at one input. -/
def kindListsWrong : ChangeSpec := { name := "kindLists", fn := fun _ => fun
  | [d] => { results := [.lit (.bool false)], args := [d] }
  | _ => none }
def KindListsWrongFalsely : Prop := kindListsRow.holds Try.pinned (OpenSpec.ofChange kindListsWrong)

/-- 'scullerylaw.KindOpens': WHATEVER THE INPUT: true; the input reads as it did. -/
def kindOpensSpec : ChangeSpec := { name := "kindOpens", fn := fun _ => fun
  | [d] => { results := [.lit (.bool true)], args := [d] }
  | _ => none }
def kindOpensRow : OpenClaim := { program := "ytmgoabkopacnaac", sum := "dc1293bba7094e164fe1502b1e3409543a00e6d06a673832db8e7f09573c9ec3", func := "scullery/scullerylaw.KindOpens", spec := "kindOpens", inPlace := ["internal/bytealg.IndexByteString"], apart := false }
def KindOpensSaid : Prop := kindOpensRow.holds Try.pinned (OpenSpec.ofChange kindOpensSpec)

/-- ITS FALSE NEIGHBOUR: 'it returns false'. Refute it at one input. -/
def kindOpensWrong : ChangeSpec := { name := "kindOpens", fn := fun _ => fun
  | [d] => { results := [.lit (.bool false)], args := [d] }
  | _ => none }
def KindOpensWrongFalsely : Prop := kindOpensRow.holds Try.pinned (OpenSpec.ofChange kindOpensWrong)

/-- 'scullerykeep.KindsBack': WHATEVER THE INPUT: true; the input reads as it did. -/
def kindsBackSpec : ChangeSpec := { name := "kindsBack", fn := fun _ => fun
  | [d] => { results := [.lit (.bool true)], args := [d] }
  | _ => none }
def kindsBackRow : OpenClaim := { program := "ytmgoabkopacnaac", sum := "dc1293bba7094e164fe1502b1e3409543a00e6d06a673832db8e7f09573c9ec3", func := "scullery/scullerykeep.KindsBack", spec := "kindsBack", inPlace := ["internal/abi.NoEscape", "internal/bytealg.MakeNoZero", "internal/bytealg.IndexByteString"], apart := false }
def KindsBackSaid : Prop := kindsBackRow.holds Try.pinned (OpenSpec.ofChange kindsBackSpec)

/-- ITS FALSE NEIGHBOUR: 'it returns false'. Refute it at one input. -/
def kindsBackWrong : ChangeSpec := { name := "kindsBack", fn := fun _ => fun
  | [d] => { results := [.lit (.bool false)], args := [d] }
  | _ => none }
def KindsBackWrongFalsely : Prop := kindsBackRow.holds Try.pinned (OpenSpec.ofChange kindsBackWrong)

/- THE SECOND FORM. 'bulk': how many values and letters a reading holds, each counted each time it is reached (what is shared counts as often as it is met; a slice's spare places count too). A statement '..UptoSaid' is the law's where the arguments, and the package variables that the reading takes, are together of bulk at most 1048576: NARROWER than '..Said'. Prove '..Said' where nothing that the law and all that it calls make is longer than what came in: it says more and counts as full. Else prove '..UptoSaid'. A law counts once. -/
mutual
def uptoBulk {H : Type} : DataW H → Nat
  | .lit (.string bytes) => bytes.length + 1
  | .lit _ => 1
  | .nil => 1
  | .ptr d => uptoBulk d + 1
  | .slice elems spare => uptoBulkAll elems + uptoBulkAll spare + 1
  | .agg parts => uptoBulkAll parts + 1
  | .iface _ d => uptoBulk d + 1
  | .map entries => uptoBulkEntries entries + 1
  | .held _ => 1
def uptoBulkAll {H : Type} : List (DataW H) → Nat
  | [] => 0
  | d :: r => uptoBulk d + uptoBulkAll r
def uptoBulkEntries {H : Type} : List (Lit × DataW H) → Nat
  | [] => 0
  | x :: r => uptoBulkEntry x + uptoBulkEntries r
def uptoBulkEntry {H : Type} : Lit × DataW H → Nat
  | (.string bytes, d) => bytes.length + uptoBulk d + 1
  | (_, d) => uptoBulk d + 1
 end
def uptoSmall : (H : Type) → List (DataW H) → Bool := fun _ ds => decide (uptoBulkAll ds ≤ 1048576)
def OpenSpec.upto (s : _root_.Go.ChangeSpec) : _root_.Go.OpenSpec := { _root_.Go.OpenSpec.ofChange s with cond := some uptoSmall }

/-- 'scullerylaw.KindElems', WHERE WHAT IT READS IS OF BULK AT MOST 1048576: true; the input reads as it did. -/
def kindElemsUptoRow : OpenClaim := { program := "ytmgoabkopacnaac", sum := "dc1293bba7094e164fe1502b1e3409543a00e6d06a673832db8e7f09573c9ec3", func := "scullery/scullerylaw.KindElems", spec := "kindElems", apart := false, narrowed := true }
def KindElemsUptoSaid : Prop := kindElemsUptoRow.holds Try.pinned (OpenSpec.upto kindElemsSpec)

/-- 'scullerylaw.KindChecks', WHERE WHAT IT READS IS OF BULK AT MOST 1048576: true; the input reads as it did. -/
def kindChecksUptoRow : OpenClaim := { program := "ytmgoabkopacnaac", sum := "dc1293bba7094e164fe1502b1e3409543a00e6d06a673832db8e7f09573c9ec3", func := "scullery/scullerylaw.KindChecks", spec := "kindChecks", apart := false, narrowed := true }
def KindChecksUptoSaid : Prop := kindChecksUptoRow.holds Try.pinned (OpenSpec.upto kindChecksSpec)

/-- 'scullerylaw.KindLists', WHERE WHAT IT READS IS OF BULK AT MOST 1048576: true; the input reads as it did. -/
def kindListsUptoRow : OpenClaim := { program := "ytmgoabkopacnaac", sum := "dc1293bba7094e164fe1502b1e3409543a00e6d06a673832db8e7f09573c9ec3", func := "scullery/scullerylaw.KindLists", spec := "kindLists", apart := false, narrowed := true }
def KindListsUptoSaid : Prop := kindListsUptoRow.holds Try.pinned (OpenSpec.upto kindListsSpec)

/-- 'scullerylaw.KindOpens', WHERE WHAT IT READS IS OF BULK AT MOST 1048576: true; the input reads as it did. -/
def kindOpensUptoRow : OpenClaim := { program := "ytmgoabkopacnaac", sum := "dc1293bba7094e164fe1502b1e3409543a00e6d06a673832db8e7f09573c9ec3", func := "scullery/scullerylaw.KindOpens", spec := "kindOpens", inPlace := ["internal/bytealg.IndexByteString"], apart := false, narrowed := true }
def KindOpensUptoSaid : Prop := kindOpensUptoRow.holds Try.pinned (OpenSpec.upto kindOpensSpec)

/-- 'scullerykeep.KindsBack', WHERE WHAT IT READS IS OF BULK AT MOST 1048576: true; the input reads as it did. -/
def kindsBackUptoRow : OpenClaim := { program := "ytmgoabkopacnaac", sum := "dc1293bba7094e164fe1502b1e3409543a00e6d06a673832db8e7f09573c9ec3", func := "scullery/scullerykeep.KindsBack", spec := "kindsBack", inPlace := ["internal/abi.NoEscape", "internal/bytealg.MakeNoZero", "internal/bytealg.IndexByteString"], apart := false, narrowed := true }
def KindsBackUptoSaid : Prop := kindsBackUptoRow.holds Try.pinned (OpenSpec.upto kindsBackSpec)

end Rows
end Go.Proofs.Ytmgoabkopacnaac
