/- What tree.Ident, tree.emptyOrIdent and the reference's NameMay answer, at every text: whether it is a word and none of the five. -/
import Derived.Test.YtcpnfkeoajeodaaGreatDoorJA
import Derived.WalkSpells
import Derived.Lib.Bytealg
namespace Go.Proofs.YtcpnfkeoajeodaaGreatDoor
open Go.RowKit
set_option maxRecDepth 100000

theorem text_eq (s : ByteArray) (l : List UInt8) : (s.toList == l) = (s.data.toList == l) := by
  rw [Lib.toList_data]

theorem kw_parts (s : ByteArray) : kwB s = ((s.toList == [117, 115, 101]) || ((s.toList == [116, 121, 112, 101]) || ((s.toList == [102, 117, 110, 99]) || ((s.toList == [105, 110, 116]) || (s.toList == [116, 101, 120, 116]))))) := by
  rw [text_eq s [117, 115, 101], text_eq s [116, 121, 112, 101], text_eq s [102, 117, 110, 99], text_eq s [105, 110, 116], text_eq s [116, 101, 120, 116]]
  rfl

set_option maxHeartbeats 1000000 in
theorem nameMay_any (s : ByteArray) (hs : s.size ≤ maxLen) (w : World) : Calls Tryz.prog 10 #[.string s] w fun e w' => e = .returned (.bool (identOk s)) ∧ w = w' := by
  have HK := veil (kw_parts s)
  have HI : Hid (identOk s = (wordOk s && !kwB s)) := rfl
  cases h0 : wordOk s
  case false =>
    have HF : Hid (identOk s = false) := by show _ = _; rw [HI.out, h0]; rfl
    go_enter Tryz.func10, Tryz.ntmps10
    go_wp2_with fail
    refine (wordMay_any s hs _).mono ?_
    rintro e w' ⟨rfl, rfl⟩
    rw [h0]
    go_wp2
    go_ret
    exact ⟨by rw [HF.out]; rfl, rfl⟩
  cases h1 : (s.toList == [117, 115, 101]) <;> cases h2 : (s.toList == [116, 121, 112, 101]) <;> cases h3 : (s.toList == [102, 117, 110, 99]) <;>
    cases h4 : (s.toList == [105, 110, 116]) <;> cases h5 : (s.toList == [116, 101, 120, 116])
  all_goals
    have HF : Hid (identOk s = _) := HI.out.trans (by rw [h0, HK.out, h1, h2, h3, h4, h5])
    go_enter Tryz.func10, Tryz.ntmps10
    go_wp2_with fail
    refine (wordMay_any s hs _).mono ?_
    rintro e w' ⟨rfl, rfl⟩
    rw [h0]
    go_wp2
    go_ret
    exact ⟨by rw [HF.out]; rfl, rfl⟩

end Go.Proofs.YtcpnfkeoajeodaaGreatDoor

/- What tree.emptyOrIdent, typeFits, namesFit and countFits answer, at every type and expression: plain functions of their fields. -/
namespace Go.Proofs.YtcpnfkeoajeodaaGreatDoor
open Go.RowKit
set_option maxRecDepth 100000

theorem len_eq (a b : Nat) : ((a : Int) == (b : Int)) = (a == b) := by
  rw [Bool.eq_iff_iff, beq_iff_eq, beq_iff_eq]; omega

end Go.Proofs.YtcpnfkeoajeodaaGreatDoor

/- What the five forms of tree.first answer, at every list and at every function value that answers f: the first of f that is not 0. -/
namespace Go.Proofs.YtcpnfkeoajeodaaGreatDoor
open Go.RowKit
set_option maxRecDepth 100000

def StrIs (s : ByteArray) (v : Value) : Prop := v = .string s ∧ s.size ≤ maxLen

end Go.Proofs.YtcpnfkeoajeodaaGreatDoor
