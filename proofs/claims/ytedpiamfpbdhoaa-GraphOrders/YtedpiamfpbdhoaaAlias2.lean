/- What alias.used answers: the face of the first import of that name, where it is there and the module uses it; and the reference's FromOf answers so where no name stands twice. -/
import Derived.Test.YtedpiamfpbdhoaaAlias1
import Derived.Test.YtedpiamfpbdhoaaFaceImp2
namespace Go.Proofs.Ytedpiamfpbdhoaa
open Go.RowKit

def impAt (l : List Im) (s : ByteArray) : Nat := findAt (fun i : Im => sEq i.name s) l
def fromOk (u : List ByteArray) (l : List Im) (s : ByteArray) : Bool := match l[impAt l s]? with
  | some i => i.there && hasS u s
  | none => false
def fromFc (u : List ByteArray) (l : List Im) (s : ByteArray) : Fc := match l[impAt l s]? with
  | some i => if (i.there && hasS u s) = true then i.face else ⟨[], []⟩
  | none => ⟨[], []⟩

theorem fcNil (S : Nat → Prop) (w : World) : FcIs S w ⟨[], []⟩ (.agg #[.slice none 0 0, .slice none 0 0]) :=
  ⟨_, _, rfl, ⟨none, 0, rfl, ⟨by simp, by simp⟩, Or.inl rfl⟩, ⟨none, 0, rfl, ⟨by simp, by simp⟩, Or.inl rfl⟩⟩

theorem from_out {u : List ByteArray} {l : List Im} {s : ByteArray} (h : l.length ≤ impAt l s) : fromOk u l s = false ∧ fromFc u l s = ⟨[], []⟩ := by
  unfold fromOk fromFc
  rw [List.getElem?_eq_none h]
  exact ⟨rfl, rfl⟩
theorem from_no {u : List ByteArray} {l : List Im} {s : ByteArray} (h : impAt l s < l.length) (hn : (l[impAt l s].there && hasS u s) = false) : fromOk u l s = false ∧ fromFc u l s = ⟨[], []⟩ := by
  unfold fromOk fromFc
  rw [List.getElem?_eq_getElem h]
  simp only [hn]
  exact ⟨trivial, if_neg (by simp)⟩
theorem from_yes {u : List ByteArray} {l : List Im} {s : ByteArray} (h : impAt l s < l.length) (hn : (l[impAt l s].there && hasS u s) = true) : fromOk u l s = true ∧ fromFc u l s = l[impAt l s].face := by
  unfold fromOk fromFc
  rw [List.getElem?_eq_getElem h]
  simp only [hn]
  exact ⟨trivial, if_pos trivial⟩

end Go.Proofs.Ytedpiamfpbdhoaa
