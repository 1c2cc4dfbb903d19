/- What face.sameFunc, slices.EqualFunc with it, and face.Same answer: whether two are the same, one by one. -/
import Derived.Test.YtieoddnaknpmlaeFaceEq
namespace Go.Proofs.Ytieoddnaknpmlae
open Go.RowKit

theorem sgIs_at {S : Nat → Prop} {w : World} {g : Sg} {b o : Nat} (h : SgAt S w g b o) : ∃ a n cap, w.cell? ⟨b, o, none⟩ = some (.string g.name) ∧ w.cell? ⟨b, o + 1, none⟩ = some (.slice a n cap) ∧ w.cell? ⟨b, o + 2, none⟩ = some (.string g.result) ∧ SgIs S w g (.agg #[.string g.name, .slice a n cap, .string g.result]) := by
  obtain ⟨⟨h0, z0⟩, ⟨v, hv, hp⟩, h1, z1⟩ := h
  obtain ⟨a, cap, rfl⟩ := hp.is
  exact ⟨a, _, cap, h0, hv, h1, _, rfl, z0, z1, hp⟩

set_option maxHeartbeats 4000000 in
theorem sameFunc_any (S : Nat → Prop) (g h : Sg) (v u : Value) (w : World) (hS : ∀ b, S b → b < w.heap.size) (hv : SgIs S w g v) (hu : SgIs S w h u) :
    Calls Try.prog 26 #[v, u] w fun e w' => e = .returned (.bool (sgEq g h)) ∧ Below w.heap.size w w' := by
  obtain ⟨vp, rfl, hn, hr, hp⟩ := hv
  obtain ⟨vq, rfl, hn2, hr2, hp2⟩ := hu
  obtain ⟨a, cap, rfl⟩ := hp.is
  obtain ⟨a2, cap2, rfl⟩ := hp2.is
  have HE : Hid (sgEq g h = ((g.name.toList == h.name.toList) && ((g.result.toList == h.result.toList) && eqL sEq g.params h.params))) := rfl
  have HC : Hid (∀ W : World, Below w.heap.size w W → Calls Try.prog 48 #[.slice a g.params.length cap, .slice a2 h.params.length cap2] W fun e w' => e = .returned (.bool (eqL sEq g.params h.params)) ∧ Below W.heap.size W w') := fun W hW =>
    equal_str S _ _ _ _ W (fun b hb => Nat.lt_of_lt_of_le (hS b hb) hW.size) (strSl_keep (Keeps.below hW hS) hp) (strSl_keep (Keeps.below hW hS) hp2)
  have HB : Hid (∀ x y, Below w.heap.size w ((w.alloc x).alloc y)) := fun x y => ((Below.refl _ _).alloc (Nat.le_refl _) _).alloc (by simp) _
  clear hp hp2
  generalize eqL sEq g.params h.params = q at *
  generalize g.params.length = n at *
  generalize h.params.length = m at *
  generalize g.name = x at *
  generalize h.name = y at *
  generalize g.result = x' at *
  generalize h.result = y' at *
  cases hxy : (x.toList == y.toList) with
  | true =>
    cases hxy' : (x'.toList == y'.toList) with
    | true =>
      go_enter Try.func26, Try.ntmps26
      go_wp2_with fail
      refine (HC.out _ (HB.out _ _)).mono ?_
      rintro e w' ⟨rfl, hb⟩
      have HB' := veil ((HB.out _ _).trans (hb.mono (by simp; omega)))
      clear hb
      go_wp2_with fail
      go_ret
      exact ⟨by rw [HE.out, hxy, hxy']; rfl, HB'.out⟩
    | false =>
      go_enter Try.func26, Try.ntmps26
      go_wp2_with fail
      go_ret
      exact ⟨by rw [HE.out, hxy, hxy']; rfl, HB.out _ _⟩
  | false =>
    go_enter Try.func26, Try.ntmps26
    go_wp2_with fail
    go_ret
    exact ⟨by rw [HE.out, hxy]; rfl, HB.out _ _⟩

set_option maxHeartbeats 4000000 in
theorem equal_sg (S : Nat → Prop) (l m : List Sg) (v u : Value) (w : World) (hS : ∀ b, S b → b < w.heap.size) (hv : SlAt S (SgAt S w) 3 l v) (hu : SlAt S (SgAt S w) 3 m u) :
    Calls Try.prog 25 #[v, u, .func (.func 26) #[] #[]] w fun e w' => e = .returned (.bool (eqL sgEq l m)) ∧ Below w.heap.size w w' := by
  have HL := veil (SlAt.len hv)
  have HM := veil (SlAt.len hu)
  have HV := veil hv
  have HU := veil hu
  obtain ⟨a, cap, rfl⟩ := hv.is
  obtain ⟨a2, cap2, rfl⟩ := hu.is
  clear hv hu
  by_cases hlm : l.length = m.length
  · have hne : ((l.length : Int) != (m.length : Int)) = false := by rw [hlm]; simp
    have hlen : l.length ≤ 9223372036854775807 := by have := HL.out; unfold maxLen at this; omega
    have HLM := veil hlm
    clear hlm
    go_enter Try.func25, Try.ntmps25
    go_wp2_with fail
    go_loopw [17] (fun i wr => ∃ j : Nat, j ≤ l.length ∧ i = .int .i64 j ∧ eqL sgEq l m = eqL sgEq (l.drop j) (m.drop j) ∧ Below w.heap.size w wr) (fun i _ => l.length - (intOf i).toNat)
    case atStart => exact ⟨0, Nat.zero_le _, rfl, rfl, Below.refl _ _⟩
    case round =>
      obtain ⟨j, hj, rfl, hq, hbl⟩ := hrel
      have HBL := veil hbl
      have HQ := veil hq
      clear hq
      by_cases hlt : j < l.length
      · have hlt' : (j : Int) < (l.length : Int) := by omega
        have hltm : j < m.length := by have := HLM.out; omega
        have hltm' : (j : Int) < (m.length : Int) := by omega
        obtain ⟨_, b, off, rfl, hb, hat⟩ := HV.out.at hlt
        obtain ⟨_, b2, off2, rfl, hb2, hat2⟩ := HU.out.at hltm
        have hbk := hS b hb
        have hbk2 := hS b2 hb2
        obtain ⟨p1, p2, p3, a0, a1, a2', hsg⟩ := sgIs_at hat
        obtain ⟨q1, q2, q3, b0, b1, b2', hsg2⟩ := sgIs_at hat2
        have d0 := (hbl.cell (p := ⟨b, off + j * 3, none⟩) hbk).trans a0
        have d1 := (hbl.cell (p := ⟨b, off + j * 3 + 1, none⟩) hbk).trans a1
        have d2 := (hbl.cell (p := ⟨b, off + j * 3 + 2, none⟩) hbk).trans a2'
        have e0 := (hbl.cell (p := ⟨b2, off2 + j * 3, none⟩) hbk2).trans b0
        have e1 := (hbl.cell (p := ⟨b2, off2 + j * 3 + 1, none⟩) hbk2).trans b1
        have e2 := (hbl.cell (p := ⟨b2, off2 + j * 3 + 2, none⟩) hbk2).trans b2'
        have hszr := hbl.size
        have hbr : b < wr.heap.size := by omega
        have hbr2 : b2 < wr.heap.size := by omega
        have HC : Hid (∀ W : World, Below w.heap.size w W → Calls Try.prog 26 #[.agg #[.string l[j].name, .slice p1 p2 p3, .string l[j].result], .agg #[.string m[j].name, .slice q1 q2 q3, .string m[j].result]] W fun e w' => e = .returned (.bool (sgEq l[j] m[j])) ∧ Below W.heap.size W w') := fun W hW =>
          sameFunc_any S _ _ _ _ W (fun b hb => Nat.lt_of_lt_of_le (hS b hb) hW.size) (hsg.keep (Keeps.below hW hS)) (hsg2.keep (Keeps.below hW hS))
        have HS : Hid (eqL sgEq l m = (sgEq l[j] m[j] && eqL sgEq (l.drop (j + 1)) (m.drop (j + 1)))) := HQ.out.trans (eqL_step hlt hltm)
        have HB2 : Hid (∀ x y, Below w.heap.size w ((wr.alloc x).alloc y)) := fun x y => (HBL.out.alloc (by omega) _).alloc (by simp; omega) _
        clear a0 a1 a2' b0 b1 b2' HV HU hbl HL HM hat hat2 hsg hsg2
        generalize sgEq l[j] m[j] = same at *
        generalize l[j].name = x at *
        generalize m[j].name = y at *
        generalize l[j].result = x' at *
        generalize m[j].result = y' at *
        cases same with
        | true =>
          go_wp2_with fail
          refine (HC.out _ (HB2.out _ _)).mono ?_
          rintro e w' ⟨rfl, hb'⟩
          have HB' := veil ((HB2.out _ _).trans (hb'.mono (by simp; omega)))
          clear hb'
          go_wp2_with fail
          exact ⟨⟨j + 1, by omega, by go_num, by rw [HS.out]; rfl, HB'.out⟩, by simp [intOf]; omega⟩
        | false =>
          go_wp2_with fail
          refine (HC.out _ (HB2.out _ _)).mono ?_
          rintro e w' ⟨rfl, hb'⟩
          have HB' := veil ((HB2.out _ _).trans (hb'.mono (by simp; omega)))
          clear hb'
          go_wp2_with fail
          go_ret
          exact ⟨by rw [HS.out]; rfl, HB'.out⟩
      · have hnl : ¬ (j : Int) < (l.length : Int) := by omega
        have HE : Hid (eqL sgEq l m = true) := HQ.out.trans (eqL_end (by omega) (by have := HLM.out; omega))
        clear HV HU hbl
        go_wp2_with fail
        go_ret
        exact ⟨by rw [HE.out]; rfl, HBL.out⟩
  · have hne : ((l.length : Int) != (m.length : Int)) = true := by simpa using fun e : (l.length : Int) = m.length => hlm (by omega)
    have HE := veil (eqL_len (p := sgEq) hlm)
    clear hlm HV HU
    go_enter Try.func25, Try.ntmps25
    go_wp2_with fail
    go_ret
    exact ⟨by rw [HE.out]; rfl, Below.refl _ _⟩

set_option maxHeartbeats 4000000 in
theorem same_face (S : Nat → Prop) (f g : Fc) (v u : Value) (w : World) (hS : ∀ b, S b → b < w.heap.size) (hv : FcIs S w f v) (hu : FcIs S w g u) :
    Calls Try.prog 9 #[v, u] w fun e w' => e = .returned (.bool (fcEq f g)) ∧ Below w.heap.size w w' := by
  obtain ⟨vt, vf, rfl, ht, hf⟩ := hv
  obtain ⟨ut, uf, rfl, kt, kf⟩ := hu
  have HE : Hid (fcEq f g = (eqL knEq f.types g.types && eqL sgEq f.funcs g.funcs)) := rfl
  have HC : Hid (∀ W : World, Below w.heap.size w W → Calls Try.prog 24 #[vt, ut] W fun e w' => e = .returned (.bool (eqL knEq f.types g.types)) ∧ Below W.heap.size W w') := fun W hW =>
    equal_kn S _ _ _ _ W (fun b hb => Nat.lt_of_lt_of_le (hS b hb) hW.size) (knSl_keep (Keeps.below hW hS) ht) (knSl_keep (Keeps.below hW hS) kt)
  have HD : Hid (∀ W : World, Below w.heap.size w W → Calls Try.prog 25 #[vf, uf, .func (.func 26) #[] #[]] W fun e w' => e = .returned (.bool (eqL sgEq f.funcs g.funcs)) ∧ Below W.heap.size W w') := fun W hW =>
    equal_sg S _ _ _ _ W (fun b hb => Nat.lt_of_lt_of_le (hS b hb) hW.size) (sgSl_keep (Keeps.below hW hS) hf) (sgSl_keep (Keeps.below hW hS) kf)
  obtain ⟨a, n, cap, rfl⟩ := ht.slice
  obtain ⟨a2, n2, cap2, rfl⟩ := hf.slice
  obtain ⟨a3, n3, cap3, rfl⟩ := kt.slice
  obtain ⟨a4, n4, cap4, rfl⟩ := kf.slice
  have HB : Hid (∀ x y, Below w.heap.size w ((w.alloc x).alloc y)) := fun x y => ((Below.refl _ _).alloc (Nat.le_refl _) _).alloc (by simp) _
  clear ht hf kt kf hS
  generalize eqL knEq f.types g.types = p at *
  generalize eqL sgEq f.funcs g.funcs = q at *
  cases p with
  | true =>
    go_enter Try.func9, Try.ntmps9
    go_wp2_with fail
    refine (HC.out _ (HB.out _ _)).mono ?_
    rintro e w' ⟨rfl, hb⟩
    have HB' := veil ((HB.out _ _).trans (hb.mono (by simp; omega)))
    obtain ⟨hc, hfz⟩ : (∀ b o, b < w.heap.size + 2 → w'.cell? ⟨b, o, none⟩ = ((w.alloc (.cells #[.slice a n cap, .slice a2 n2 cap2] 25)).alloc (.cells #[.slice a3 n3 cap3, .slice a4 n4 cap4] 25)).cell? ⟨b, o, none⟩) ∧ True := ⟨fun b o h => hb.cell (p := ⟨b, o, none⟩) (by show b < _; simp; omega), trivial⟩
    have hsz : w.heap.size + 1 < w'.heap.size := by have := hb.size; simp at this; omega
    clear hb
    go_wp2_with fail
    refine (HD.out _ HB'.out).mono ?_
    rintro e w2 ⟨rfl, hb2⟩
    have HB2 := veil (HB'.out.trans (hb2.mono HB'.out.size))
    clear hb2
    go_wp2_with fail
    go_ret
    exact ⟨by rw [HE.out]; rfl, HB2.out⟩
  | false =>
    go_enter Try.func9, Try.ntmps9
    go_wp2_with fail
    refine (HC.out _ (HB.out _ _)).mono ?_
    rintro e w' ⟨rfl, hb⟩
    have HB' := veil ((HB.out _ _).trans (hb.mono (by simp; omega)))
    clear hb
    go_wp2_with fail
    go_ret
    exact ⟨by rw [HE.out]; rfl, HB'.out⟩

end Go.Proofs.Ytieoddnaknpmlae
