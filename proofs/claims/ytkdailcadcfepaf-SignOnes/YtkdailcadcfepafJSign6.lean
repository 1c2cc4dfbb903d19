/- What the law's sameSig answers of signatures that are the same. -/
import Derived.Test.YtkdailcadcfepafJFa
import Derived.Test.YtkdailcadcfepafJEk
namespace Go.Proofs.Ytkdailcadcfepaf
open Go.RowKit

set_option maxHeartbeats 4000000 in
theorem sameSig_any (S : Nat → Prop) (g : Sg) (a a2 : Option Addr) (n cap n2 cap2 : Nat) (w : World) (hS : ∀ b, S b → b < w.heap.size) (hv : SgIs S w g (.agg #[.string g.name, .slice a n cap, .string g.result])) (hu : SgIs S w g (.agg #[.string g.name, .slice a2 n2 cap2, .string g.result])) :
    Calls Try.prog 20 #[.agg #[.string g.name, .slice a n cap, .string g.result], .agg #[.string g.name, .slice a2 n2 cap2, .string g.result]] w fun e w' => e = .returned (.bool true) ∧ Below w.heap.size w w' := by
  obtain ⟨vp, e, _, _, hp⟩ := hv
  obtain ⟨vp2, e2, _, _, hp2⟩ := hu
  have e' : [Value.string g.name, .slice a n cap, .string g.result] = [.string g.name, vp, .string g.result] := congrArg Array.toList (Value.agg.inj e)
  have e2' : [Value.string g.name, .slice a2 n2 cap2, .string g.result] = [.string g.name, vp2, .string g.result] := congrArg Array.toList (Value.agg.inj e2)
  injection e' with _ e'
  injection e' with e' _
  injection e2' with _ e2'
  injection e2' with e2' _
  subst e' e2'
  clear e e2
  have HT : Hid (∀ W, Below w.heap.size w W → Calls Try.prog 44 #[.slice a n cap, .slice a2 n2 cap2] W fun e w' => e = .returned (.bool true) ∧ Below W.heap.size W w') := fun W hW =>
    sameTexts_any S g.params _ _ W (fun b hb => Nat.lt_of_lt_of_le (hS b hb) hW.size) (strSl_keep (Keeps.below hW hS) hp) (strSl_keep (Keeps.below hW hS) hp2)
  have HA : Hid (Below w.heap.size w ((w.alloc (.cells #[.string g.name, .slice a n cap, .string g.result] 49)).alloc (.cells #[.string g.name, .slice a2 n2 cap2, .string g.result] 49))) := ((Below.refl _ _).alloc (Nat.le_refl _) _).alloc (by simp) _
  clear hp hp2
  generalize g.name = x at *
  generalize g.result = y at *
  have hx : (x.toList == x.toList) = true := by simp
  have hy : (y.toList == y.toList) = true := by simp
  go_enter Try.func20, Try.ntmps20
  go_wp2_with (go_at_call 44; refine (HT.out _ HA.out).mono ?_; rintro e w3 ⟨rfl, hb3⟩)
  have HB := veil (HA.out.trans (hb3.mono HA.out.size))
  clear hb3
  go_wp2_with fail
  go_ret
  exact ⟨rfl, HB.out⟩

end Go.Proofs.Ytkdailcadcfepaf
