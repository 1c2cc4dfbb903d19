/- What scullerylaw.may answers, and what alias.From answers: the face of the import of that name, a copy of it. -/
import Derived.Test.YtkdailcadcfepafGreatJAlias4
import Derived.Test.YtkdailcadcfepafGreatJEj
namespace Go.Proofs.YtkdailcadcfepafGreat
open Go.RowKit
set_option maxRecDepth 100000

theorem may_any (S : Nat → Prop) (m : Mo) (l : List Im) (vm v : Value) (w : World) (hS : ∀ b, S b → b < w.heap.size) (hm : MoIs S w m vm) (hv : SlAt S (ImAt S w) 4 l v) :
    Calls Tryz.prog 4 #[vm, v] w fun e w' => e = .returned (.bool (moFault m == 0 && imsFault l == 0)) ∧ Below w.heap.size w w' := by
  have HC : Hid (∀ W : World, Below w.heap.size w W → Calls Tryz.prog 9 #[vm] W fun e w' => e = .returned (.int .i64 (moFault m)) ∧ Below W.heap.size W w') := fun W hW =>
    moduleFault_any S m vm W (fun b hb => Nat.lt_of_lt_of_le (hS b hb) hW.size) (hm.keep (Keeps.below hW hS))
  have HD : Hid (∀ W : World, Below w.heap.size w W → Calls Tryz.prog 10 #[v] W fun e w' => e = .returned (.int .i64 (imsFault l)) ∧ Below W.heap.size W w') := fun W hW =>
    importsFault_any S l v W (fun b hb => Nat.lt_of_lt_of_le (hS b hb) hW.size) (imSl_keep (Keeps.below hW hS) hv)
  obtain ⟨vu, vt, vf, rfl, hu, ht, hf⟩ := hm
  obtain ⟨u1, u2, u3, rfl⟩ := hu.slice
  obtain ⟨t1, t2, t3, rfl⟩ := ht.slice
  obtain ⟨f1, f2, f3, rfl⟩ := hf.slice
  obtain ⟨a, n, cap, rfl⟩ := hv.slice
  have HA : Hid (Below w.heap.size w (w.alloc (.cells #[.slice u1 u2 u3, .slice t1 t2 t3, .slice f1 f2 f3] 26))) := (Below.refl _ _).alloc (Nat.le_refl _) _
  clear hv hu ht hf
  generalize moFault m = r at *
  generalize imsFault l = q at *
  cases hr : (r == 0) with
  | false =>
    go_enter Tryz.func4, Tryz.ntmps4
    go_wp2_with fail
    refine (HC.out _ HA.out).mono ?_
    rintro e w' ⟨rfl, hb⟩
    have HB := veil (HA.out.trans (hb.mono HA.out.size))
    clear hb
    go_wp2_with fail
    go_ret
    exact ⟨by simp, HB.out⟩
  | true =>
    go_enter Tryz.func4, Tryz.ntmps4
    go_wp2_with fail
    refine (HC.out _ HA.out).mono ?_
    rintro e w' ⟨rfl, hb⟩
    have HB := veil (HA.out.trans (hb.mono HA.out.size))
    clear hb
    go_wp2_with fail
    refine (HD.out _ HB.out).mono ?_
    rintro e w2 ⟨rfl, hb2⟩
    have HB2 := veil (HB.out.trans (hb2.mono HB.out.size))
    clear hb2
    go_wp2_with fail
    go_ret
    exact ⟨by simp, HB2.out⟩

theorem fcNil_small : fcSmall ⟨[], []⟩ := ⟨⟨by simp, by simp⟩, by simp, by simp⟩
theorem from_small {u : List ByteArray} {l : List Im} (s : ByteArray) (h : ∀ i ∈ l, fcSmall i.face) : fcSmall (fromFc u l s) := by
  unfold fromFc
  cases hl : l[impAt l s]? with
  | none => exact fcNil_small
  | some i =>
    show fcSmall (if (i.there && hasS u s) = true then i.face else ⟨[], []⟩)
    by_cases hi : (i.there && hasS u s) = true
    · rw [if_pos hi]; exact h i (List.mem_of_getElem? hl)
    · rw [if_neg hi]; exact fcNil_small

end Go.Proofs.YtkdailcadcfepafGreat
