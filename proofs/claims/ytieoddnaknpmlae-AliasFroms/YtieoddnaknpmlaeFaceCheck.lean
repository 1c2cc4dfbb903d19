/- What face.Check answers: the first thing that is wrong with a face. -/
import Derived.Test.YtieoddnaknpmlaeFaceOrder
namespace Go.Proofs.Ytieoddnaknpmlae
open Go.RowKit

def fcFault (f : Fc) : Int :=
  if 24 < wrap64 ((f.types.length : Int) + f.funcs.length) then 1 else
  if orderFault knFault Kn.name f.types ⟨#[]⟩ = 0 then orderFault sgFault Sg.name f.funcs ⟨#[]⟩ else orderFault knFault Kn.name f.types ⟨#[]⟩

set_option maxHeartbeats 2000000 in
theorem checkFace_any (S : Nat → Prop) (f : Fc) (v : Value) (w : World) (hS : ∀ b, S b → b < w.heap.size) (hv : FcIs S w f v) :
    Calls Try.prog 37 #[v] w fun e w' => e = .returned (.int .i64 (fcFault f)) ∧ Below w.heap.size w w' := by
  obtain ⟨vt, vf, rfl, ht, hf⟩ := hv
  have HE : Hid (fcFault f = if 24 < wrap64 ((f.types.length : Int) + f.funcs.length) then 1 else if orderFault knFault Kn.name f.types ⟨#[]⟩ = 0 then orderFault sgFault Sg.name f.funcs ⟨#[]⟩ else orderFault knFault Kn.name f.types ⟨#[]⟩) := rfl
  have HC : Hid (∀ W : World, Below w.heap.size w W → Calls Try.prog 53 #[vt, .func (.func 54) #[] #[], .func (.func 55) #[] #[]] W fun e w' => e = .returned (.int .i64 (orderFault knFault Kn.name f.types ⟨#[]⟩)) ∧ Below W.heap.size W w') := fun W hW =>
    inOrder_kn S _ _ W (fun b hb => Nat.lt_of_lt_of_le (hS b hb) hW.size) (knSl_keep (Keeps.below hW hS) ht)
  have HD : Hid (∀ W : World, Below w.heap.size w W → Calls Try.prog 56 #[vf, .func (.func 57) #[] #[], .func (.func 58) #[] #[]] W fun e w' => e = .returned (.int .i64 (orderFault sgFault Sg.name f.funcs ⟨#[]⟩)) ∧ Below W.heap.size W w') := fun W hW =>
    inOrder_sg S _ _ W (fun b hb => Nat.lt_of_lt_of_le (hS b hb) hW.size) (sgSl_keep (Keeps.below hW hS) hf)
  have h1 := ht.len
  have h2 := hf.len
  unfold maxLen at h1 h2
  obtain ⟨a, cap, rfl⟩ := ht.is
  obtain ⟨a2, cap2, rfl⟩ := hf.is
  have HA : Hid (Below w.heap.size w (w.alloc (.cells #[.slice a f.types.length cap, .slice a2 f.funcs.length cap2] 25))) := (Below.refl _ _).alloc (Nat.le_refl _) _
  clear ht hf hS
  generalize orderFault knFault Kn.name f.types ⟨#[]⟩ = p at *
  generalize orderFault sgFault Sg.name f.funcs ⟨#[]⟩ = q at *
  generalize fcFault f = r at *
  by_cases h24 : 24 < wrap64 ((f.types.length : Int) + f.funcs.length)
  · have HE' : Hid (r = 1) := HE.out.trans (if_pos h24)
    clear HE
    go_enter Try.func37, Try.ntmps37
    go_wp2_with fail
    go_ret
    exact ⟨by rw [HE'.out]; rfl, HA.out⟩
  · have HE1 : Hid (r = if p = 0 then q else p) := HE.out.trans (if_neg h24)
    clear HE
    have hc : ∀ w1, Below (w.alloc (.cells #[.slice a f.types.length cap, .slice a2 f.funcs.length cap2] 25)).heap.size (w.alloc (.cells #[.slice a f.types.length cap, .slice a2 f.funcs.length cap2] 25)) w1 → w1.cell? ⟨w.heap.size, 1, none⟩ = some (.slice a2 f.funcs.length cap2) := fun w1 hb => (hb.cell (p := ⟨w.heap.size, 1, none⟩) (by simp)).trans (by simp [go_sem])
    have HCe := veil hc
    clear hc
    by_cases hp : p = 0
    · have HE' : Hid (r = q) := HE1.out.trans (if_pos hp)
      subst hp
      clear HE1
      go_enter Try.func37, Try.ntmps37
      go_wp2_with fail
      refine (HC.out _ HA.out).mono ?_
      rintro e w1 ⟨rfl, hb⟩
      have hc := HCe.out _ hb
      have HB := veil (HA.out.trans (hb.mono (by simp)))
      clear hb
      go_wp2_with fail
      refine (HD.out _ HB.out).mono ?_
      rintro e w2 ⟨rfl, hb2⟩
      have HB2 := veil (HB.out.trans (hb2.mono HB.out.size))
      clear hb2 hc
      go_wp2_with fail
      go_ret
      exact ⟨by rw [HE'.out]; rfl, HB2.out⟩
    · have HE' : Hid (r = p) := HE1.out.trans (if_neg hp)
      have hp' : (p != 0) = true := by simpa using hp
      clear HE1 hp
      go_enter Try.func37, Try.ntmps37
      go_wp2_with fail
      refine (HC.out _ HA.out).mono ?_
      rintro e w1 ⟨rfl, hb⟩
      have HB := veil (HA.out.trans (hb.mono (by simp)))
      clear hb
      go_wp2_with fail
      go_ret
      exact ⟨by rw [HE'.out]; rfl, HB.out⟩

end Go.Proofs.Ytieoddnaknpmlae
