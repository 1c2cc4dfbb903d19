/- What the reference's sees and wants answer. -/
import Derived.Test.YtpamadnckijfkabGreatDoorEyeS1
import Derived.Test.YtpamadnckijfkabGreatDoorEyeS2
import Derived.Test.YtpamadnckijfkabGreatDoorEyeS3
import Derived.Test.YtpamadnckijfkabGreatDoorEyeS5
import Derived.Test.YtpamadnckijfkabGreatDoorEyeS6
namespace Go.Proofs.YtpamadnckijfkabGreatDoor
open Go.RowKit
set_option maxRecDepth 100000

set_option maxHeartbeats 4000000 in
theorem sees_eye (B : Nat) (l : Toks) (i : Nat) (e d : Int) (s : ByteArray) (w : World) (h : EyeAt B l i e d w) :
    Calls Tryz.prog 84 #[.pointer (some ⟨B, 0, none⟩), .string s] w fun r w' => r = .returned (.bool (seesB l i e s.data.toList)) ∧ EyeAt B l (adv (seesB l i e s.data.toList) i) e d w' ∧ Moved B w w' := by
  by_cases he : e = 0
  · subst he
    have hS : seesB l i 0 s.data.toList = sgn l i s.data.toList := by unfold seesB; simp
    by_cases hlt : i < l.length
    · have hT := tok_at hlt 4 s.data.toList
      have hT3 : (l[i].2.toList == s.toList) = (l[i].2.data.toList == s.data.toList) := by rw [Lib.toList_data, Lib.toList_data]
      by_cases hk : l[i].1 = 4
      · cases hs : (l[i].2.toList == s.toList)
        · have hR : sgn l i s.data.toList = false := by unfold sgn; rw [hT, ← hT3, hs, hk]; rfl
          rw [hS, hR]
          exact sees_text B l i d s w h hlt hk hs
        · have hR : sgn l i s.data.toList = true := by unfold sgn; rw [hT, ← hT3, hs, hk]; rfl
          rw [hS, hR]
          exact sees_sign B l i d s w h hlt hk hs
      · have hR : sgn l i s.data.toList = false := by unfold sgn; rw [hT, beq_eq_false_iff_ne.2 hk]; rfl
        rw [hS, hR]
        exact sees_kind B l i d s w h hlt hk
    · have hR : sgn l i s.data.toList = false := tok_end hlt 4 _
      rw [hS, hR]
      exact sees_end B l i d s w h hlt
  · have hS : seesB l i e s.data.toList = false := by unfold seesB; simp [he]
    rw [hS]
    exact sees_err B l i e d s w h he

/-- what is wrong behind a sign that was wanted. -/
def wantE (b : Bool) (e : Int) : Int := if b = true then e else firstOf e 4

/-- a sign is wanted. -/
theorem wants_eye (B : Nat) (l : Toks) (i : Nat) (e d : Int) (s : ByteArray) (w : World) (h : EyeAt B l i e d w) :
    Calls Tryz.prog 47 #[.pointer (some ⟨B, 0, none⟩), .string s] w fun r w' => r = .returned (.tuple #[]) ∧ EyeAt B l (adv (seesB l i e s.data.toList) i) (wantE (seesB l i e s.data.toList) e) d w' ∧ Moved B w w' := by
  have HH := veil h
  clear h
  go_enter Tryz.func47, Tryz.ntmps47
  go_wp2_with fail
  refine (sees_eye B l i e d s w HH.out).mono ?_
  rintro r w1 ⟨rfl, q1, q2⟩
  cases hs : seesB l i e s.data.toList
  · rw [hs] at q1
    have HQ1 := veil q1
    have HQ2 := veil q2
    have HSV := veil hs
    clear q1 q2 hs
    go_wp2_with fail
    refine (bad_eye B l _ e d 4 w1 HQ1.out).mono ?_
    rintro r w2 ⟨rfl, q1, q2⟩
    have HQ3 := veil q1
    have HQ4 := veil (HQ2.out.trans q2)
    clear q1 q2
    go_wp2_with fail
    go_end0
    exact ⟨rfl, by rw [HSV.out]; exact HQ3.out, HQ4.out⟩
  · rw [hs] at q1
    have HQ1 := veil q1
    have HQ2 := veil q2
    have HSV := veil hs
    clear q1 q2 hs
    go_wp2_with fail
    go_end0
    exact ⟨rfl, by rw [HSV.out]; exact HQ1.out, HQ2.out⟩

end Go.Proofs.YtpamadnckijfkabGreatDoor
