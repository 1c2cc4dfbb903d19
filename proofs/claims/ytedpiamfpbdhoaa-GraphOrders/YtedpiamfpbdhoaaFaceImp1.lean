/- What face.empty, importName, checkImport, inOrder at imports, CheckImports, and the reference's ImportsFault answer: the first thing that is wrong with a list of imports. -/
import Derived.Test.YtedpiamfpbdhoaaFaceFault
namespace Go.Proofs.Ytedpiamfpbdhoaa
open Go.RowKit

def fcNone (f : Fc) : Bool := ((f.types.length : Int) == 0) && ((f.funcs.length : Int) == 0)
def imFault (i : Im) : Int := if identOk i.name = true then (if fcFault i.face = 0 then bad4 (i.there || fcNone i.face) else fcFault i.face) else 4
def imsFault (l : List Im) : Int := if 24 < (l.length : Int) then 1 else orderFault imFault Im.name l ⟨#[]⟩

theorem im_ident {i : Im} (h : imFault i = 0) : identOk i.name = true := by
  unfold imFault at h
  by_cases hi : identOk i.name = true
  · exact hi
  · rw [if_neg hi] at h
    cases h

def ImIs (S : Nat → Prop) (w : World) (i : Im) (v : Value) : Prop := ∃ vt vf, v = .agg #[.string i.name, .bool i.there, vt, vf] ∧ i.name.size ≤ maxLen ∧ FcCs S w i.face vt vf
theorem ImIs.keep {S S' : Nat → Prop} {w w' : World} (hk : Keeps S S' w w') {i : Im} {v : Value} (h : ImIs S w i v) : ImIs S' w' i v := by
  obtain ⟨vt, vf, rfl, h1, h2⟩ := h
  exact ⟨vt, vf, rfl, h1, h2.keep hk⟩
theorem imIs_at {S : Nat → Prop} {w : World} {i : Im} {b o : Nat} (h : ImAt S w i b o) : ∃ a n cap a2 n2 cap2, w.cell? ⟨b, o, none⟩ = some (.string i.name) ∧ w.cell? ⟨b, o + 1, none⟩ = some (.bool i.there) ∧ w.cell? ⟨b, o + 2, none⟩ = some (.slice a n cap) ∧ w.cell? ⟨b, o + 3, none⟩ = some (.slice a2 n2 cap2) ∧ ImIs S w i (.agg #[.string i.name, .bool i.there, .slice a n cap, .slice a2 n2 cap2]) := by
  obtain ⟨⟨h0, z0⟩, h1, vt, vf, h2, h3, h4⟩ := h
  obtain ⟨a, n, cap, rfl⟩ := h4.1.slice
  obtain ⟨a2, n2, cap2, rfl⟩ := h4.2.slice
  exact ⟨a, n, cap, a2, n2, cap2, h0, h1, h2, h3, _, _, rfl, z0, h4⟩

end Go.Proofs.Ytedpiamfpbdhoaa
