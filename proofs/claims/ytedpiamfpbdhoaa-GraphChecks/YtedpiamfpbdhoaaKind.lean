/- What package kind's bracketed, between, Check, and the reference's ElemOf and KindFault answer, at every text: whether it is in brackets, what is between, what is wrong with it as a kind; the world as it was. -/
import Derived.Test.YtedpiamfpbdhoaaProg
import GoSem.PinnedTables
import GoSem.Claim
import GoSem.ClaimJoined
import GoSem.ClaimMapViews
import Derived.JoinedTies
import Derived.KernelRfl
import Derived.RowKit
import Derived.WalkKit
import Derived.WalkLawsBesides
import Derived.Shelf.Abstract
namespace Go.Proofs.Ytedpiamfpbdhoaa
open Go.RowKit

/-- a fact that the walk must not take for a rule. -/
theorem veilK {p : Prop} (h : p) : Hid p := h

/-- byte j of s, as a number (0 beyond its end). -/
def kAt (s : ByteArray) (j : Nat) : Int := ((s.data.toList.getD j 0).toNat : Int)

theorem kAt_get (s : ByteArray) (k : Nat) (h : k < s.size) : ((s[k]'h).toNat : Int) = kAt s k := by
  unfold kAt
  have h' : k < s.data.toList.length := by simpa using h
  rw [List.getD_eq_getElem?_getD, List.getElem?_eq_getElem h']
  rfl

def isList (s : ByteArray) : Bool := decide (2 < s.size) && (kAt s 0 == 91 && kAt s (s.size - 1) == 93)
def inner (s : ByteArray) : ByteArray := s.extract 1 (s.size - 1)

theorem isList_size {s : ByteArray} (h : isList s = true) : 2 < s.size := by
  unfold isList at h
  simp only [Bool.and_eq_true, decide_eq_true_eq] at h
  exact h.1

theorem inner_size {s : ByteArray} (h : 2 < s.size) : (inner s).size = s.size - 2 := by
  unfold inner
  rw [ByteArray.size_extract]
  omega

/-- what is left of a text when all its brackets are taken away. -/
def kcore (s : ByteArray) : ByteArray := if isList s = true then kcore (inner s) else s
termination_by s.size
decreasing_by rename_i h; rw [inner_size (isList_size h)]; have := isList_size h; omega

theorem kcore_in {s : ByteArray} (h : isList s = true) : kcore s = kcore (inner s) := by rw [kcore.eq_1 s]; simp [h]
theorem kcore_no {s : ByteArray} (h : isList s = false) : kcore s = s := by rw [kcore.eq_1 s]; simp [h]

theorem run_inner (s : ByteArray) (h2 : 2 < s.size) (wx : World) :
    (Instr.slice 9 (.string s) (some (.int .i64 1)) (some (.int .i64 ((s.size : Int) - 1))) none).run Try.prog wx = .ok (.string (inner s)) wx := by
  have := run_slice_string (P := Try.prog) wx 9 s .i64 .i64 1 ((s.size : Int) - 1) Try.underlying9 (by omega) (by omega) (by omega)
  rw [this]
  unfold inner
  rw [show ((s.size : Int) - 1).toNat = s.size - 1 by omega]
  rfl

/-- may a text be what is left of a kind? -/
def isBase (t : ByteArray) : Bool := t.toList == [105, 110, 116] || (t.toList == [116, 101, 120, 116] || t.toList == [42])
def kindErr (s : ByteArray) : Int := if 600 < s.size then 1 else if isBase (kcore s) then 0 else 4

def textOfV : Value → ByteArray
  | .string t => t
  | _ => ⟨#[]⟩

theorem isList_at {s : ByteArray} (h2 : 2 < s.size) : isList s = (((s[0]'(by omega)).toNat : Int) == 91 && ((s[s.size - 1]'(by omega)).toNat : Int) == 93) := by
  rw [kAt_get s 0, kAt_get s (s.size - 1)]; simp [isList, h2]

/-- the list of a text. -/
def wrapK (s : ByteArray) : ByteArray := ⟨#[91]⟩ ++ s ++ ⟨#[93]⟩
def listErr (s : ByteArray) : Int := if kindErr s = 0 then (if 598 < s.size then 1 else 0) else kindErr s

theorem kindErr_size {s : ByteArray} (h : kindErr s = 0) : s.size ≤ 600 := by
  unfold kindErr at h
  split at h
  · cases h
  · omega

end Go.Proofs.Ytedpiamfpbdhoaa
