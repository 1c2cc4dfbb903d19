/- What tree.Ident, tree.emptyOrIdent and the reference's NameMay answer, at every text: whether it is a word and none of the five. -/
import Derived.Test.YtedpiamfpbdhoaaTree
import Derived.WalkSpells
import Derived.Lib.Bytealg
namespace Go.Proofs.Ytedpiamfpbdhoaa
open Go.RowKit

theorem text_eq (s : ByteArray) (l : List UInt8) : (s.toList == l) = (s.data.toList == l) := by
  rw [Lib.toList_data]

theorem kw_parts (s : ByteArray) : kwB s = ((s.toList == [117, 115, 101]) || ((s.toList == [116, 121, 112, 101]) || ((s.toList == [102, 117, 110, 99]) || ((s.toList == [105, 110, 116]) || (s.toList == [116, 101, 120, 116]))))) := by
  rw [text_eq s [117, 115, 101], text_eq s [116, 121, 112, 101], text_eq s [102, 117, 110, 99], text_eq s [105, 110, 116], text_eq s [116, 101, 120, 116]]
  rfl

set_option maxHeartbeats 1000000 in
theorem ident_any (s : ByteArray) (hs : s.size ≤ maxLen) (w : World) : Calls Try.prog 19 #[.string s] w fun e w' => e = .returned (.bool (identOk s)) ∧ Below w.heap.size w w' := by
  have HK := veil (kw_parts s)
  have HI : Hid (identOk s = (wordOk s && !kwB s)) := rfl
  have stop : ∀ b, kwB s = true → Ending.returned (Value.bool false) = Ending.returned (.bool (identOk s)) ∧ Below b w w := fun b h => ⟨by rw [HI.out, h]; simp, Below.refl _ _⟩
  have HS := veil stop
  clear stop
  cases h1 : (s.toList == [117, 115, 101])
  case true =>
    have HT : Hid (kwB s = true) := by show _ = _; rw [HK.out, h1]; rfl
    go_enter Try.func19, Try.ntmps19
    go_wp2_with fail
    go_ret
    exact HS.out _ HT.out
  cases h2 : (s.toList == [116, 121, 112, 101])
  case true =>
    have HT : Hid (kwB s = true) := by show _ = _; rw [HK.out, h1, h2]; rfl
    go_enter Try.func19, Try.ntmps19
    go_wp2_with fail
    go_ret
    exact HS.out _ HT.out
  cases h3 : (s.toList == [102, 117, 110, 99])
  case true =>
    have HT : Hid (kwB s = true) := by show _ = _; rw [HK.out, h1, h2, h3]; rfl
    go_enter Try.func19, Try.ntmps19
    go_wp2_with fail
    go_ret
    exact HS.out _ HT.out
  cases h4 : (s.toList == [105, 110, 116])
  case true =>
    have HT : Hid (kwB s = true) := by show _ = _; rw [HK.out, h1, h2, h3, h4]; rfl
    go_enter Try.func19, Try.ntmps19
    go_wp2_with fail
    go_ret
    exact HS.out _ HT.out
  cases h5 : (s.toList == [116, 101, 120, 116])
  case true =>
    have HT : Hid (kwB s = true) := by show _ = _; rw [HK.out, h1, h2, h3, h4, h5]; rfl
    go_enter Try.func19, Try.ntmps19
    go_wp2_with fail
    go_ret
    exact HS.out _ HT.out
  have HT : Hid (kwB s = false) := by show _ = _; rw [HK.out, h1, h2, h3, h4, h5]; rfl
  go_enter Try.func19, Try.ntmps19
  go_wp2_with fail
  refine (word_any s hs _).mono ?_
  rintro e w' ⟨rfl, hb⟩
  go_wp2
  go_ret
  exact ⟨by rw [HI.out, HT.out]; simp, hb⟩

set_option maxHeartbeats 1000000 in
theorem nameMay_any (s : ByteArray) (hs : s.size ≤ maxLen) (w : World) : Calls Try.prog 11 #[.string s] w fun e w' => e = .returned (.bool (identOk s)) ∧ w = w' := by
  have HK := veil (kw_parts s)
  have HI : Hid (identOk s = (wordOk s && !kwB s)) := rfl
  cases h0 : wordOk s
  case false =>
    have HF : Hid (identOk s = false) := by show _ = _; rw [HI.out, h0]; rfl
    go_enter Try.func11, Try.ntmps11
    go_wp2_with fail
    refine (wordMay_any s hs _).mono ?_
    rintro e w' ⟨rfl, rfl⟩
    rw [h0]
    go_wp2
    go_ret
    exact ⟨by rw [HF.out]; rfl, rfl⟩
  cases h1 : (s.toList == [117, 115, 101]) <;> cases h2 : (s.toList == [116, 121, 112, 101]) <;> cases h3 : (s.toList == [102, 117, 110, 99]) <;>
    cases h4 : (s.toList == [105, 110, 116]) <;> cases h5 : (s.toList == [116, 101, 120, 116])
  all_goals
    have HF : Hid (identOk s = _) := HI.out.trans (by rw [h0, HK.out, h1, h2, h3, h4, h5])
    go_enter Try.func11, Try.ntmps11
    go_wp2_with fail
    refine (wordMay_any s hs _).mono ?_
    rintro e w' ⟨rfl, rfl⟩
    rw [h0]
    go_wp2
    go_ret
    exact ⟨by rw [HF.out]; rfl, rfl⟩

end Go.Proofs.Ytedpiamfpbdhoaa
