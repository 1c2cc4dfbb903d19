/- What kind.Elem and kind.Open, and the reference's IsOpen, answer: of what a list is (a copy), whether a text has a variable. -/
import Derived.Test.YtpamadnckijfkadKind
import Derived.Test.YtpamadnckijfkadShelf
import Derived.Lib.IndexLaws
namespace Go.Proofs.Ytpamadnckijfkad
open Go.RowKit

theorem clone_kind (s : ByteArray) (w : World) (h : s.size ≤ 281474976710656) :
    Calls Try.prog 9 #[.string s] w fun e w' => e = .returned (.string s) ∧ Below w.heap.size w w' := by
  go_enter Try.func9, Try.ntmps9
  go_wp2_with (go_at_call 14; refine (Try.stringslite_Clone s _ h).mono ?_; rintro e w' ⟨rfl, hb⟩)
  go_ret
  exact ⟨rfl, hb⟩

theorem elem_list {s : ByteArray} (hs : s.size ≤ 281474976710656) (h : isList s = true) (w : World) :
    Calls Try.prog 13 #[.string s] w fun e w' => e = .returned (.tuple #[.string (inner s), .bool true]) ∧ Below w.heap.size w w' := by
  have h2 := isList_size h
  have hi := inner_size h2
  have hm : s.size ≤ maxLen := by unfold maxLen; omega
  go_enter Try.func13, Try.ntmps13
  go_wp2_with fail
  refine (bracketed_any s hm _).mono ?_
  rintro e w' ⟨rfl, rfl⟩
  rw [h]
  go_wp2_with fail
  refine (between_any s hm h2 _).mono ?_
  rintro e w' ⟨rfl, rfl⟩
  go_wp2_with fail
  refine (clone_kind (inner s) _ (by omega)).mono ?_
  rintro e w1 ⟨rfl, hb⟩
  go_wp2
  go_ret2
  exact ⟨rfl, hb⟩

theorem elem_none {s : ByteArray} (hm : s.size ≤ maxLen) (h : isList s = false) (w : World) :
    Calls Try.prog 13 #[.string s] w fun e w' => e = .returned (.tuple #[.string ⟨#[]⟩, .bool false]) ∧ w = w' := by
  go_enter Try.func13, Try.ntmps13
  go_wp2_with fail
  refine (bracketed_any s hm _).mono ?_
  rintro e w' ⟨rfl, rfl⟩
  rw [h]
  go_wp2
  go_ret2
  exact ⟨rfl, rfl⟩

--FI
end Go.Proofs.Ytpamadnckijfkad
