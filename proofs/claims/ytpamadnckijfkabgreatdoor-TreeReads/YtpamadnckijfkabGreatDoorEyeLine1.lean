/- What the reference's lineOf answers: what is common to its ways. -/
import Derived.Test.YtpamadnckijfkabGreatDoorEyeFun4
import Derived.Test.YtpamadnckijfkabGreatDoorReadLine
import Derived.Deep.RegionLaw
namespace Go.Proofs.YtpamadnckijfkabGreatDoor
open Go.RowKit
set_option maxRecDepth 100000

theorem fault_kinds {l : Toks} (h : ∀ t ∈ l, faultOf t = 0) : ∀ t ∈ l, t.1 = 1 ∨ t.1 = 2 ∨ t.1 = 3 ∨ t.1 = 4 := by
  intro t ht
  have := h t ht
  unfold faultOf at this
  rcases fault_sound this with ⟨h, _⟩ | ⟨h, _⟩ | ⟨h, _⟩ | ⟨h, _⟩
  · exact .inl h
  · exact .inr (.inl h)
  · exact .inr (.inr (.inl h))
  · exact .inr (.inr (.inr h))

/-- the eye, as it is made. -/
theorem eye_new {l : Toks} {v : Value} {W : World} (ht : TokRow W v l) (h2 : l.length ≤ 200) (h3 : ∀ t ∈ l, faultOf t = 0) : EyeAt W.heap.size l 0 0 0 (W.alloc (.cells #[v, .int .i64 0, .int .i64 0, .int .i64 0] 95)) :=
  ⟨v, heap_alloc_new W _, toks_of ht rfl ((Below.refl _ _).alloc (Nat.le_refl _) _) h2 h3, Nat.zero_le _, fault_kinds h3⟩

/-- what is wrong at a line's end. -/
def endErr (n j : Nat) (e : Int) : Int := if n ≤ j then e else firstOf e 4

/-- 'bad' asks for the eye's own block alone. -/
theorem bad_box (B : Nat) (tv : Value) (i : Nat) (e d e' : Int) (w : World) (h : w.heap[B]? = some (.cells #[tv, .int .i64 i, .int .i64 e, .int .i64 d] 95 (0, 0))) :
    Calls Tryz.prog 50 #[.pointer (some ⟨B, 0, none⟩), .int .i64 e'] w fun r w' => r = .returned (.tuple #[]) ∧ w'.heap[B]? = some (.cells #[tv, .int .i64 i, .int .i64 (firstOf e e'), .int .i64 d] 95 (0, 0)) ∧ Moved B w w' := by
  have b2 : w.cell? ⟨B, 2, none⟩ = some (.int .i64 e) := row_cell h 2 _ rfl
  have hfz : w.frozen? ⟨B, 2, none⟩ = false := Lib.frozen_of_heap h 2
  have HH := veil h
  have HM := veil (Moved.refl B w)
  clear h
  by_cases he : e = 0
  · subst he
    have HS := veil (block_set HH.out 2 (.int .i64 e'))
    have e0 : firstOf 0 e' = e' := if_pos rfl
    rw [e0]
    go_enter Tryz.func50, Tryz.ntmps50
    go_wp2_with fail
    go_end0
    exact ⟨rfl, HS.out, HM.out.set 2 _⟩
  · have he' : (e == 0) = false := by simpa using he
    have e0 : firstOf e e' = e := if_neg he
    rw [e0]
    clear he
    go_enter Tryz.func50, Tryz.ntmps50
    go_wp2_with fail
    go_end0
    exact ⟨rfl, HH.out, HM.out⟩

/-- a line's answer, out of what was read. -/
theorem line_fin {base M : Nat} {mo : Mo} {W w' : World} {l : Toks} {j : Nat} {e : Int} {d : Line} {r : Except Int Line} (hb : BelowM base M W w')
    (hr : (e = 0 ∧ r = (if l.length ≤ j then .ok d else .error 4) ∧ ∃ n1 vu vt vf, ModAt base M n1 (putLine mo d) vu vt vf w') ∨ (e ≠ 0 ∧ r = .error e)) : LineR base M mo W r (endErr l.length j e) w' := by
  rcases hr with ⟨rfl, hr, hm⟩ | ⟨hne, hr⟩
  · have := lineR_fin hb hr hm
    unfold endErr firstOf
    simpa using this
  · refine ⟨hb, .inl ⟨e, hr, ?_⟩⟩
    unfold endErr firstOf
    rw [if_neg hne]
    split <;> rfl

theorem belowM_moved {base M n1 B : Nat} {mo : Mo} {vu vt vf : Value} {W w' : World} (h : ModAt base M n1 mo vu vt vf W) (hB : W.heap.size ≤ B) (hm : Moved B W w') : BelowM base M W w' :=
  BelowM.of_below hm.below (by have := h.hb; have := h.hn; omega)

end Go.Proofs.YtpamadnckijfkabGreatDoor
