/-
  NARROWER THAN 'FOR EVERY INPUT', by the rows' own cells (each row's printed sentence says how): AliasFroms: loops.
  DERIVED. THE GIVEN ROWS OF THIS SEAT. 6 by the template 'for every input the law returns true; each argument reads behind the call as it read before'; 0 by the template 'total and deterministic' (their statements: YtieoddnaknpmlaeTotals.lean).
  GIVEN WITH THE SEED: the statements are not yours to turn. If you find one false, say at which input.
  Laid BY PROGRAM, IN A SANDBOX (cutbox-rows.mjs): the forced cells as the released guide's own fill.sh prints them over the translation 2d9063442d25b599… (all of the seat's roots in one cut). By AI agents, Wed Nov 11 2026. No macro, syntax, notation, axiom, sorry.
-/
import Derived.Test.YtieoddnaknpmlaeChecked
import GoSem.Claim
import GoSem.ClaimJoined
import GoSem.ClaimMapViews
import Derived.JoinedTies
import Derived.KernelRfl
namespace Go.Proofs.Ytieoddnaknpmlae
/- THE CELL 'sum', in the pinned program and in every row, IS THE sha256 OF THE DUMP (.gsa) THAT YtieoddnaknpmlaeProg.lean LOADS. Nothing in Lean hashes anything: it is a label: what it is worth is what the hold of that sum in a sandbox is worth. -/
noncomputable def Try.pinned : Pinned := { name := "ytieoddnaknpmlae", sum := "2d9063442d25b59919bcd786a9f03628912999eaa71e6286a35c7f7104c5b0e7", checked := Try.checked }
namespace Rows
def none {H : Type} : Left H := { results := [], args := [] }

/-- 'scullerylaw.FaceSames': WHATEVER THE INPUT: true; the input reads as it did. -/
def faceSamesSpec : ChangeSpec := { name := "faceSames", fn := fun _ => fun
  | [d1, d2] => { results := [.lit (.bool true)], args := [d1, d2] }
  | _ => none }
def faceSamesRow : OpenClaim := { program := "ytieoddnaknpmlae", sum := "2d9063442d25b59919bcd786a9f03628912999eaa71e6286a35c7f7104c5b0e7", func := "scullery/scullerylaw.FaceSames", spec := "faceSames", unfollowed := true, recurses := true, apart := false }
def FaceSamesSaid : Prop := faceSamesRow.holds Try.pinned (OpenSpec.ofChange faceSamesSpec)

/-- ITS FALSE NEIGHBOUR: 'it returns false'. Refute it at one input. -/
def faceSamesWrong : ChangeSpec := { name := "faceSames", fn := fun _ => fun
  | [d1, d2] => { results := [.lit (.bool false)], args := [d1, d2] }
  | _ => none }
def FaceSamesWrongFalsely : Prop := faceSamesRow.holds Try.pinned (OpenSpec.ofChange faceSamesWrong)

/-- 'scullerylaw.FaceTypes': WHATEVER THE INPUT: true; the input reads as it did. -/
def faceTypesSpec : ChangeSpec := { name := "faceTypes", fn := fun _ => fun
  | [d1, d2] => { results := [.lit (.bool true)], args := [d1, d2] }
  | _ => none }
def faceTypesRow : OpenClaim := { program := "ytieoddnaknpmlae", sum := "2d9063442d25b59919bcd786a9f03628912999eaa71e6286a35c7f7104c5b0e7", func := "scullery/scullerylaw.FaceTypes", spec := "faceTypes", unfollowed := true, recurses := true, apart := false }
def FaceTypesSaid : Prop := faceTypesRow.holds Try.pinned (OpenSpec.ofChange faceTypesSpec)

/-- ITS FALSE NEIGHBOUR: 'it returns false'. Refute it at one input. -/
def faceTypesWrong : ChangeSpec := { name := "faceTypes", fn := fun _ => fun
  | [d1, d2] => { results := [.lit (.bool false)], args := [d1, d2] }
  | _ => none }
def FaceTypesWrongFalsely : Prop := faceTypesRow.holds Try.pinned (OpenSpec.ofChange faceTypesWrong)

/-- 'scullerylaw.FaceFuncs': WHATEVER THE INPUT: true; the input reads as it did. -/
def faceFuncsSpec : ChangeSpec := { name := "faceFuncs", fn := fun _ => fun
  | [d1, d2] => { results := [.lit (.bool true)], args := [d1, d2] }
  | _ => none }
def faceFuncsRow : OpenClaim := { program := "ytieoddnaknpmlae", sum := "2d9063442d25b59919bcd786a9f03628912999eaa71e6286a35c7f7104c5b0e7", func := "scullery/scullerylaw.FaceFuncs", spec := "faceFuncs", unfollowed := true, recurses := true, apart := false }
def FaceFuncsSaid : Prop := faceFuncsRow.holds Try.pinned (OpenSpec.ofChange faceFuncsSpec)

/-- ITS FALSE NEIGHBOUR: 'it returns false'. Refute it at one input. -/
def faceFuncsWrong : ChangeSpec := { name := "faceFuncs", fn := fun _ => fun
  | [d1, d2] => { results := [.lit (.bool false)], args := [d1, d2] }
  | _ => none }
def FaceFuncsWrongFalsely : Prop := faceFuncsRow.holds Try.pinned (OpenSpec.ofChange faceFuncsWrong)

/-- 'scullerylaw.FaceShows': WHATEVER THE INPUT: true; the input reads as it did. -/
def faceShowsSpec : ChangeSpec := { name := "faceShows", fn := fun _ => fun
  | [d] => { results := [.lit (.bool true)], args := [d] }
  | _ => none }
def faceShowsRow : OpenClaim := { program := "ytieoddnaknpmlae", sum := "2d9063442d25b59919bcd786a9f03628912999eaa71e6286a35c7f7104c5b0e7", func := "scullery/scullerylaw.FaceShows", spec := "faceShows", inPlace := ["internal/bytealg.IndexByteString", "internal/abi.NoEscape", "internal/bytealg.MakeNoZero"], unfollowed := true, recurses := true, apart := false }
def FaceShowsSaid : Prop := faceShowsRow.holds Try.pinned (OpenSpec.ofChange faceShowsSpec)

/-- ITS FALSE NEIGHBOUR: 'it returns false'. Refute it at one input. -/
def faceShowsWrong : ChangeSpec := { name := "faceShows", fn := fun _ => fun
  | [d] => { results := [.lit (.bool false)], args := [d] }
  | _ => none }
def FaceShowsWrongFalsely : Prop := faceShowsRow.holds Try.pinned (OpenSpec.ofChange faceShowsWrong)

/-- 'scullerylaw.FaceImports': WHATEVER THE INPUT: true; the input reads as it did. -/
def faceImportsSpec : ChangeSpec := { name := "faceImports", fn := fun _ => fun
  | [d] => { results := [.lit (.bool true)], args := [d] }
  | _ => none }
def faceImportsRow : OpenClaim := { program := "ytieoddnaknpmlae", sum := "2d9063442d25b59919bcd786a9f03628912999eaa71e6286a35c7f7104c5b0e7", func := "scullery/scullerylaw.FaceImports", spec := "faceImports", inPlace := ["internal/bytealg.IndexByteString"], unfollowed := true, recurses := true, apart := false }
def FaceImportsSaid : Prop := faceImportsRow.holds Try.pinned (OpenSpec.ofChange faceImportsSpec)

/-- ITS FALSE NEIGHBOUR: 'it returns false'. Refute it at one input. -/
def faceImportsWrong : ChangeSpec := { name := "faceImports", fn := fun _ => fun
  | [d] => { results := [.lit (.bool false)], args := [d] }
  | _ => none }
def FaceImportsWrongFalsely : Prop := faceImportsRow.holds Try.pinned (OpenSpec.ofChange faceImportsWrong)

/-- 'scullerylaw.AliasFroms': WHATEVER THE INPUT: true; the input reads as it did. -/
def aliasFromsSpec : ChangeSpec := { name := "aliasFroms", fn := fun _ => fun
  | [d1, d2, d3] => { results := [.lit (.bool true)], args := [d1, d2, d3] }
  | _ => none }
def aliasFromsRow : OpenClaim := { program := "ytieoddnaknpmlae", sum := "2d9063442d25b59919bcd786a9f03628912999eaa71e6286a35c7f7104c5b0e7", func := "scullery/scullerylaw.AliasFroms", spec := "aliasFroms", unfollowed := true, recurses := true, loops := true, apart := false }
def AliasFromsSaid : Prop := aliasFromsRow.holds Try.pinned (OpenSpec.ofChange aliasFromsSpec)

/-- ITS FALSE NEIGHBOUR: 'it returns false'. Refute it at one input. -/
def aliasFromsWrong : ChangeSpec := { name := "aliasFroms", fn := fun _ => fun
  | [d1, d2, d3] => { results := [.lit (.bool false)], args := [d1, d2, d3] }
  | _ => none }
def AliasFromsWrongFalsely : Prop := aliasFromsRow.holds Try.pinned (OpenSpec.ofChange aliasFromsWrong)

/- THE SECOND FORM. 'bulk': how many values and letters a reading holds, each counted each time it is reached (what is shared counts as often as it is met; a slice's spare places count too). A statement '..UptoSaid' is the law's where the arguments, and the package variables that the reading takes, are together of bulk at most 1048576: NARROWER than '..Said'. Prove '..Said' where nothing that the law and all that it calls make is longer than what came in: it says more and counts as full. Else prove '..UptoSaid'. A law counts once. -/
mutual
def uptoBulk {H : Type} : DataW H → Nat
  | .lit (.string bytes) => bytes.length + 1
  | .lit _ => 1
  | .nil => 1
  | .ptr d => uptoBulk d + 1
  | .slice elems spare => uptoBulkAll elems + uptoBulkAll spare + 1
  | .agg parts => uptoBulkAll parts + 1
  | .iface _ d => uptoBulk d + 1
  | .map entries => uptoBulkEntries entries + 1
  | .held _ => 1
def uptoBulkAll {H : Type} : List (DataW H) → Nat
  | [] => 0
  | d :: r => uptoBulk d + uptoBulkAll r
def uptoBulkEntries {H : Type} : List (Lit × DataW H) → Nat
  | [] => 0
  | x :: r => uptoBulkEntry x + uptoBulkEntries r
def uptoBulkEntry {H : Type} : Lit × DataW H → Nat
  | (.string bytes, d) => bytes.length + uptoBulk d + 1
  | (_, d) => uptoBulk d + 1
 end
def uptoSmall : (H : Type) → List (DataW H) → Bool := fun _ ds => decide (uptoBulkAll ds ≤ 1048576)
def OpenSpec.upto (s : _root_.Go.ChangeSpec) : _root_.Go.OpenSpec := { _root_.Go.OpenSpec.ofChange s with cond := some uptoSmall }

/-- 'scullerylaw.FaceSames', WHERE WHAT IT READS IS OF BULK AT MOST 1048576: true; the input reads as it did. -/
def faceSamesUptoRow : OpenClaim := { program := "ytieoddnaknpmlae", sum := "2d9063442d25b59919bcd786a9f03628912999eaa71e6286a35c7f7104c5b0e7", func := "scullery/scullerylaw.FaceSames", spec := "faceSames", unfollowed := true, recurses := true, apart := false, narrowed := true }
def FaceSamesUptoSaid : Prop := faceSamesUptoRow.holds Try.pinned (OpenSpec.upto faceSamesSpec)

/-- 'scullerylaw.FaceTypes', WHERE WHAT IT READS IS OF BULK AT MOST 1048576: true; the input reads as it did. -/
def faceTypesUptoRow : OpenClaim := { program := "ytieoddnaknpmlae", sum := "2d9063442d25b59919bcd786a9f03628912999eaa71e6286a35c7f7104c5b0e7", func := "scullery/scullerylaw.FaceTypes", spec := "faceTypes", unfollowed := true, recurses := true, apart := false, narrowed := true }
def FaceTypesUptoSaid : Prop := faceTypesUptoRow.holds Try.pinned (OpenSpec.upto faceTypesSpec)

/-- 'scullerylaw.FaceFuncs', WHERE WHAT IT READS IS OF BULK AT MOST 1048576: true; the input reads as it did. -/
def faceFuncsUptoRow : OpenClaim := { program := "ytieoddnaknpmlae", sum := "2d9063442d25b59919bcd786a9f03628912999eaa71e6286a35c7f7104c5b0e7", func := "scullery/scullerylaw.FaceFuncs", spec := "faceFuncs", unfollowed := true, recurses := true, apart := false, narrowed := true }
def FaceFuncsUptoSaid : Prop := faceFuncsUptoRow.holds Try.pinned (OpenSpec.upto faceFuncsSpec)

/-- 'scullerylaw.FaceShows', WHERE WHAT IT READS IS OF BULK AT MOST 1048576: true; the input reads as it did. -/
def faceShowsUptoRow : OpenClaim := { program := "ytieoddnaknpmlae", sum := "2d9063442d25b59919bcd786a9f03628912999eaa71e6286a35c7f7104c5b0e7", func := "scullery/scullerylaw.FaceShows", spec := "faceShows", inPlace := ["internal/bytealg.IndexByteString", "internal/abi.NoEscape", "internal/bytealg.MakeNoZero"], unfollowed := true, recurses := true, apart := false, narrowed := true }
def FaceShowsUptoSaid : Prop := faceShowsUptoRow.holds Try.pinned (OpenSpec.upto faceShowsSpec)

/-- 'scullerylaw.FaceImports', WHERE WHAT IT READS IS OF BULK AT MOST 1048576: true; the input reads as it did. -/
def faceImportsUptoRow : OpenClaim := { program := "ytieoddnaknpmlae", sum := "2d9063442d25b59919bcd786a9f03628912999eaa71e6286a35c7f7104c5b0e7", func := "scullery/scullerylaw.FaceImports", spec := "faceImports", inPlace := ["internal/bytealg.IndexByteString"], unfollowed := true, recurses := true, apart := false, narrowed := true }
def FaceImportsUptoSaid : Prop := faceImportsUptoRow.holds Try.pinned (OpenSpec.upto faceImportsSpec)

/-- 'scullerylaw.AliasFroms', WHERE WHAT IT READS IS OF BULK AT MOST 1048576: true; the input reads as it did. -/
def aliasFromsUptoRow : OpenClaim := { program := "ytieoddnaknpmlae", sum := "2d9063442d25b59919bcd786a9f03628912999eaa71e6286a35c7f7104c5b0e7", func := "scullery/scullerylaw.AliasFroms", spec := "aliasFroms", unfollowed := true, recurses := true, loops := true, apart := false, narrowed := true }
def AliasFromsUptoSaid : Prop := aliasFromsUptoRow.holds Try.pinned (OpenSpec.upto aliasFromsSpec)

end Rows
end Go.Proofs.Ytieoddnaknpmlae
