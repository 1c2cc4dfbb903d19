/- What the printer's fun, and tree.Show, write, at every function and module that may be: their text. -/
import Derived.Test.YtaphjoggjfmbfabDoorShowEx
import Derived.Test.YtaphjoggjfmbfabDoorCheckTree
namespace Go.Proofs.YtaphjoggjfmbfabDoor
open Go.RowKit

theorem fdTo_le (l : List Fd) : ∀ k j, k ≤ j → (fdTo l k).length ≤ (fdTo l j).length
  | k, 0, h => by have : k = 0 := by omega
                  subst this; exact Nat.le_refl _
  | k, j + 1, h => by
    by_cases e : k = j + 1
    · subst e; exact Nat.le_refl _
    · have := fdTo_le l k j (by omega)
      simp only [fdTo, List.length_append]; omega

set_option maxHeartbeats 8000000 in
set_option maxRecDepth 100000 in
theorem fun_any (S : Nat → Prop) (B b : Nat) (x : Fu) (v : Value) (l : List UInt8) (w : World) (hS : ∀ c, S c → c < B) (hx : FuIs S w x v) (hf : fuFault x = 0) (hw : Wrote B b l w) (ht : TabIn B w) (hlen : l.length + (fuShown x).length ≤ 140737488355328) :
    Calls Tryd.prog 9 #[.pointer (some ⟨b, 0, none⟩), v] w fun e w' => e = .returned (.tuple #[]) ∧ Wrote B b (l ++ fuShown x) w' ∧ Went B b w w' := by
  obtain ⟨vp, k, f, n, va, k', n', f', s', va', rfl, hsz, hsz1, hps, hcs, hce⟩ := hx
  obtain ⟨va1, va2, va3, rfl⟩ := hcs.slice
  obtain ⟨ve1, ve2, ve3, rfl⟩ := hce.slice
  obtain ⟨vp1, vp3, rfl, ⟨hplen, _⟩, hprest⟩ := hps
  unfold maxLen at hplen
  obtain ⟨hnam, hvar, hp8, hfd, hres, hbody⟩ := fu_ok hf
  have HPR := veil hprest
  have HCT := veil hcs
  have HCE := veil hce
  have HFD := veil hfd
  have HTab := veil ht
  have hlt := builder_lt hw
  have HB : Hid (Went B b w (w.alloc (.cells #[.string x.name, .string x.var, .slice vp1 x.params.length vp3, .int .i64 k, .string f, .string n, .slice va1 va2 va3, .int .i64 k', .int .i64 n', .string f', .string s', .slice ve1 ve2 ve3] 49))) := Went.of_below ((Below.refl _ _).alloc (Nat.le_refl _) _) (by omega)
  have HW : Hid (Wrote B b l (w.alloc (.cells #[.string x.name, .string x.var, .slice vp1 x.params.length vp3, .int .i64 k, .string f, .string n, .slice va1 va2 va3, .int .i64 k', .int .i64 n', .string f', .string s', .slice ve1 ve2 ve3] 49))) := hw.below ((Below.refl _ _).alloc (Nat.le_refl _) _)
  have HNew := veil (heap_alloc_new w (.cells #[.string x.name, .string x.var, .slice vp1 x.params.length vp3, .int .i64 k, .string f, .string n, .slice va1 va2 va3, .int .i64 k', .int .i64 n', .string f', .string s', .slice ve1 ve2 ve3] 49))
  have hwb : w.heap.size ≠ b := by omega
  have HVN := veil (noneB_text x.var)
  clear hcs hce hprest hfd ht hw hf
  cases hv0 : (x.var.toList == [])
  · have hvs : varShown x.var = [60] ++ (x.var.data.toList ++ [62]) := if_neg (by rw [← HVN.out, hv0]; simp)
    rw [fuShown, hvs] at hlen ⊢
    simp only [List.length_append, List.length_cons, List.length_nil] at hlen
    clear hvs HVN
    go_enter Tryd.func9, Tryd.ntmps9
    go_wp2_with fail
    refine (write_new B b l [⟨#[102, 117, 110, 99, 32]⟩, x.name] _ _ _ _ (by simp) rfl rfl ([102, 117, 110, 99, 32] ++ x.name.data.toList) HW.out (by simp) (by simp [joined]) (by simp only [List.length_append, List.length_cons, List.length_nil]; omega)).mono ?_
    rintro e w1 ⟨rfl, q1, q2⟩
    have HW1 := veil q1
    have HE1 := veil q2
    have e1 : w1.cell? ⟨w.heap.size, 1, none⟩ = some (.string x.var) := q2.cell HNew.out hwb (by decide) 1
    clear q1 q2 HW
    go_wp2_with fail
    refine (write_new B b _ [⟨#[60]⟩, x.var, ⟨#[62]⟩] w1 _ _ _ (by simp) rfl rfl ([60] ++ (x.var.data.toList ++ [62])) HW1.out (by simp) (by simp [joined]) (by simp only [List.length_append, List.length_cons, List.length_nil]; omega)).mono ?_
    rintro e w2 ⟨rfl, q1, q2⟩
    have HW2 := veil q1
    have HE2 := veil (HE1.out.trans q2)
    clear q1 q2 HW1 HE1 e1
    go_wp2_with fail
    refine (write_new B b _ [⟨#[40]⟩] w2 _ _ _ (by simp) rfl rfl [40] HW2.out (by decide) rfl (by simp only [List.length_append, List.length_cons, List.length_nil]; omega)).mono ?_
    rintro e w3 ⟨rfl, q1, q2⟩
    have HWs := veil q1
    have HEs := veil (HE2.out.trans q2)
    have e2 : w3.cell? ⟨w.heap.size, 2, none⟩ = some (.slice vp1 x.params.length vp3) := HEs.out.cell HNew.out hwb (by decide) 2
    clear q1 q2 HW2 HE2
    go_wp2_with fail
    go_loopw [25] (fun i wr => ∃ j : Nat, j ≤ x.params.length ∧ i = .int .i64 j ∧ Wrote B b ((l ++ ([102, 117, 110, 99, 32] ++ x.name.data.toList) ++ ([60] ++ (x.var.data.toList ++ [62])) ++ [40]) ++ fdTo x.params j) wr ∧ Went B b (w.alloc (.cells #[.string x.name, .string x.var, .slice vp1 x.params.length vp3, .int .i64 k, .string f, .string n, .slice va1 va2 va3, .int .i64 k', .int .i64 n', .string f', .string s', .slice ve1 ve2 ve3] 49)) wr) (fun i _ => x.params.length - (intOf i).toNat)
    case atStart => exact ⟨0, Nat.zero_le _, rfl, by simpa [fdTo] using HWs.out, HEs.out⟩
    case round =>
      clear HWs HEs
      obtain ⟨j, hj, rfl, hwr, hwe⟩ := hrel
      have HWr := veil hwr
      have HEr := veil hwe
      have hltr := builder_lt hwr
      clear hwr hwe
      by_cases hltk : j < x.params.length
      · rcases HPR.out with h0 | ⟨bb, off, rfl, hb, hrow⟩
        · omega
        have hbw := hS bb hb
        obtain ⟨⟨c0, hfs⟩, hty⟩ := hrow.get j hltk
        obtain ⟨kd, fo, na, va, c1, c2, c3, c4, hcs⟩ := tyAt_cells.1 hty
        obtain ⟨vb1, vb2, vb3, rfl⟩ := hcs.slice
        rw [Nat.add_assoc] at c2 c3 c4
        have hwent := HB.out.trans HEr.out
        have d0 := (cell_in hwent hbw (off + j * 5)).trans c0
        have d1 := (cell_in hwent hbw (off + j * 5 + 1)).trans c1
        have d2 := (cell_in hwent hbw (off + j * 5 + 2)).trans c2
        have d3 := (cell_in hwent hbw (off + j * 5 + 3)).trans c3
        have d4 := (cell_in hwent hbw (off + j * 5 + 4)).trans c4
        have HC := veil hcs
        have hfd := HFD.out j hltk
        have HTy : Hid (tyFault x.params[j].is 1 = 0) := by
          show _ = _
          unfold fdFault at hfd
          split at hfd
          · exact hfd
          · omega
        have HST : Hid (fdTo x.params (j + 1) = fdTo x.params j ++ ((if j = 0 then [] else [44, 32]) ++ fdShown x.params[j])) := by show _ = _; rw [fdTo, List.getElem?_eq_getElem hltk]; rfl
        have HFS : Hid (fdShown x.params[j] = x.params[j].name.data.toList ++ ([58, 32] ++ tyShown x.params[j].is)) := rfl
        have HLE' : Hid ((fdTo x.params j).length + ((if j = 0 then [] else [44, 32] : List UInt8).length + (x.params[j].name.data.toList.length + (2 + (tyShown x.params[j].is).length))) ≤ (fdTo x.params x.params.length).length) := by
          show _ ≤ _
          have := fdTo_le x.params (j + 1) x.params.length hltk
          rw [HST.out, HFS.out] at this
          simpa only [List.length_append, List.length_cons, List.length_nil] using this
        have HWa := veil (HWr.out.below ((Below.refl _ _).alloc (Nat.le_refl _) (.cells #[.string x.params[j].name, .int .i64 kd, .string fo, .string na, .slice vb1 vb2 vb3] 43)))
        have HEa := veil (HEr.out.alloc (by omega) (.cells #[.string x.params[j].name, .int .i64 kd, .string fo, .string na, .slice vb1 vb2 vb3] 43))
        have HNew2 := veil (heap_alloc_new wr (.cells #[.string x.params[j].name, .int .i64 kd, .string fo, .string na, .slice vb1 vb2 vb3] 43))
        have hnb : wr.heap.size ≠ b := by omega
        clear c0 c1 c2 c3 c4 hcs hrow hty hfd HWr HEr hwent HPR HFD
        generalize x.params[j] = pj at *
        go_wp2_with fail
        refine (comma_any B b j _ _ HWa.out ?_).mono ?_
        · intro hk0
          have h1 := HLE'.out
          have h2 := hlen
          rw [if_neg hk0] at h1
          simp only [List.length_cons, List.length_nil] at h1
          simp only [List.length_append, List.length_cons, List.length_nil]
          omega
        rintro e w2 ⟨rfl, q1, q2⟩
        have HW2 := veil q1
        have HE2 := veil (HEa.out.trans q2)
        have HQ2 := veil (fun (W : World) (h : Went B b w2 W) (o : Nat) => (q2.trans h).cell HNew2.out hnb (by decide) o)
        have e0 : w2.cell? ⟨wr.heap.size, 0, none⟩ = some (.string pj.name) := q2.cell HNew2.out hnb (by decide) 0
        clear q1 q2 HWa HEa d0 d1 d2 d3 d4
        go_wp2_with fail
        refine (write_new B b _ [pj.name, ⟨#[58, 32]⟩] w2 _ _ _ (by simp) rfl rfl (pj.name.data.toList ++ [58, 32]) HW2.out (by simp) (by simp [joined]) ?_).mono ?_
        · have h1 := HLE'.out
          have h2 := hlen
          simp only [List.length_append, List.length_cons, List.length_nil]
          omega
        rintro e w3 ⟨rfl, q1, q2⟩
        have HW3 := veil q1
        have HE3 := veil (HE2.out.trans q2)
        have e1 : w3.cell? ⟨wr.heap.size, 1, none⟩ = some (.int .i64 kd) := HQ2.out w3 q2 1
        have e2 : w3.cell? ⟨wr.heap.size, 2, none⟩ = some (.string fo) := HQ2.out w3 q2 2
        have e3 : w3.cell? ⟨wr.heap.size, 3, none⟩ = some (.string na) := HQ2.out w3 q2 3
        have e4 : w3.cell? ⟨wr.heap.size, 4, none⟩ = some (.slice vb1 vb2 vb3) := HQ2.out w3 q2 4
        clear q1 q2 HQ2 e0 HW2 HE2
        go_wp2_with fail
        refine (typ_any 10 1 (by omega) S B b pj.is _ _ w3 hS ⟨_, _, _, _, rfl, HC.out.keep (Keeps.below (HB.out.trans HE3.out).below hS)⟩ HTy.out HW3.out ?_).mono ?_
        · have h1 := HLE'.out
          have h2 := hlen
          simp only [List.length_append, List.length_cons, List.length_nil]
          omega
        rintro e w4 ⟨rfl, q1, q2⟩
        have HW4 : Hid (Wrote B b ((l ++ ([102, 117, 110, 99, 32] ++ x.name.data.toList) ++ ([60] ++ (x.var.data.toList ++ [62])) ++ [40]) ++ fdTo x.params (j + 1)) w4) := by
          show Wrote _ _ _ _
          rw [HST.out, HFS.out]
          simpa [List.append_assoc] using q1
        have HE4 := veil (HE3.out.trans q2)
        clear q1 q2 HW3 HE3 e1 e2 e3 e4
        go_wp2_with fail
        exact ⟨⟨j + 1, by omega, by go_num, HW4.out, HE4.out⟩, by simp [intOf]; omega⟩
      · have hkl : j = x.params.length := by omega
        subst hkl
        clear HPR HFD
        have HQ := veil (fun (W : World) (h : Went B b (w.alloc (.cells #[.string x.name, .string x.var, .slice vp1 x.params.length vp3, .int .i64 k, .string f, .string n, .slice va1 va2 va3, .int .i64 k', .int .i64 n', .string f', .string s', .slice ve1 ve2 ve3] 49)) W) (o : Nat) => h.cell HNew.out hwb (by decide) o)
        go_wp2_with fail
        refine (write_new B b _ [⟨#[41, 58, 32]⟩] wr _ _ _ (by simp) rfl rfl [41, 58, 32] HWr.out (by decide) rfl (by simp only [List.length_append, List.length_cons, List.length_nil]; omega)).mono ?_
        rintro e w2 ⟨rfl, q1, q2⟩
        have HW2 := veil q1
        have HE2 := veil (HEr.out.trans q2)
        clear q1 q2 HWr HEr
        have e3 : w2.cell? ⟨w.heap.size, 3, none⟩ = some (.int .i64 k) := HQ.out w2 HE2.out 3
        have e4 : w2.cell? ⟨w.heap.size, 4, none⟩ = some (.string f) := HQ.out w2 HE2.out 4
        have e5 : w2.cell? ⟨w.heap.size, 5, none⟩ = some (.string n) := HQ.out w2 HE2.out 5
        have e6 : w2.cell? ⟨w.heap.size, 6, none⟩ = some (.slice va1 va2 va3) := HQ.out w2 HE2.out 6
        go_wp2_with fail
        refine (typ_any 10 1 (by omega) S B b x.result _ _ w2 hS ⟨_, _, _, _, rfl, HCT.out.keep (Keeps.below (HB.out.trans HE2.out).below hS)⟩ hres HW2.out (by simp only [List.length_append, List.length_cons, List.length_nil]; omega)).mono ?_
        rintro e w3 ⟨rfl, q1, q2⟩
        have HW3 := veil q1
        have HE3 := veil (HE2.out.trans q2)
        clear q1 q2 HW2 HE2 e3 e4 e5 e6
        go_wp2_with fail
        refine (write_new B b _ [⟨#[32, 61, 32]⟩] w3 _ _ _ (by simp) rfl rfl [32, 61, 32] HW3.out (by decide) rfl (by simp only [List.length_append, List.length_cons, List.length_nil]; omega)).mono ?_
        rintro e w4 ⟨rfl, q1, q2⟩
        have HW4 := veil q1
        have HE4 := veil (HE3.out.trans q2)
        clear q1 q2 HW3 HE3
        have e3 : w4.cell? ⟨w.heap.size, 7, none⟩ = some (.int .i64 k') := HQ.out w4 HE4.out 7
        have e4 : w4.cell? ⟨w.heap.size, 8, none⟩ = some (.int .i64 n') := HQ.out w4 HE4.out 8
        have e5 : w4.cell? ⟨w.heap.size, 9, none⟩ = some (.string f') := HQ.out w4 HE4.out 9
        have e6 : w4.cell? ⟨w.heap.size, 10, none⟩ = some (.string s') := HQ.out w4 HE4.out 10
        have e7 : w4.cell? ⟨w.heap.size, 11, none⟩ = some (.slice ve1 ve2 ve3) := HQ.out w4 HE4.out 11
        go_wp2_with fail
        refine (expr_any 10 1 (by omega) S B b x.body _ _ w4 hS ⟨_, _, _, _, _, rfl, HCE.out.keep (Keeps.below (HB.out.trans HE4.out).below hS)⟩ hbody HW4.out (HTab.out.keep (HB.out.trans HE4.out).below) (by simp only [List.length_append, List.length_cons, List.length_nil]; omega)).mono ?_
        rintro e w5 ⟨rfl, q1, q2⟩
        go_wp2_with fail
        go_end0
        exact ⟨rfl, by simpa [List.append_assoc] using q1, (HB.out.trans HE4.out).trans q2⟩
  · have hvs : varShown x.var = [] := if_pos (by rw [← HVN.out, hv0])
    rw [fuShown, hvs] at hlen ⊢
    simp only [List.length_append, List.length_cons, List.length_nil, List.nil_append] at hlen
    clear hvs HVN
    go_enter Tryd.func9, Tryd.ntmps9
    go_wp2_with fail
    refine (write_new B b l [⟨#[102, 117, 110, 99, 32]⟩, x.name] _ _ _ _ (by simp) rfl rfl ([102, 117, 110, 99, 32] ++ x.name.data.toList) HW.out (by simp) (by simp [joined]) (by simp only [List.length_append, List.length_cons, List.length_nil]; omega)).mono ?_
    rintro e w1 ⟨rfl, q1, q2⟩
    have HW1 := veil q1
    have HE1 := veil q2
    have e1 : w1.cell? ⟨w.heap.size, 1, none⟩ = some (.string x.var) := q2.cell HNew.out hwb (by decide) 1
    clear q1 q2 HW
    go_wp2_with fail
    refine (write_new B b _ [⟨#[40]⟩] w1 _ _ _ (by simp) rfl rfl [40] HW1.out (by decide) rfl (by simp only [List.length_append, List.length_cons, List.length_nil]; omega)).mono ?_
    rintro e w3 ⟨rfl, q1, q2⟩
    have HWs := veil q1
    have HEs := veil (HE1.out.trans q2)
    have e2 : w3.cell? ⟨w.heap.size, 2, none⟩ = some (.slice vp1 x.params.length vp3) := HEs.out.cell HNew.out hwb (by decide) 2
    clear q1 q2 HW1 HE1 e1
    go_wp2_with fail
    go_loopw [25] (fun i wr => ∃ j : Nat, j ≤ x.params.length ∧ i = .int .i64 j ∧ Wrote B b ((l ++ ([102, 117, 110, 99, 32] ++ x.name.data.toList) ++ [40]) ++ fdTo x.params j) wr ∧ Went B b (w.alloc (.cells #[.string x.name, .string x.var, .slice vp1 x.params.length vp3, .int .i64 k, .string f, .string n, .slice va1 va2 va3, .int .i64 k', .int .i64 n', .string f', .string s', .slice ve1 ve2 ve3] 49)) wr) (fun i _ => x.params.length - (intOf i).toNat)
    case atStart => exact ⟨0, Nat.zero_le _, rfl, by simpa [fdTo] using HWs.out, HEs.out⟩
    case round =>
      clear HWs HEs
      obtain ⟨j, hj, rfl, hwr, hwe⟩ := hrel
      have HWr := veil hwr
      have HEr := veil hwe
      have hltr := builder_lt hwr
      clear hwr hwe
      by_cases hltk : j < x.params.length
      · rcases HPR.out with h0 | ⟨bb, off, rfl, hb, hrow⟩
        · omega
        have hbw := hS bb hb
        obtain ⟨⟨c0, hfs⟩, hty⟩ := hrow.get j hltk
        obtain ⟨kd, fo, na, va, c1, c2, c3, c4, hcs⟩ := tyAt_cells.1 hty
        obtain ⟨vb1, vb2, vb3, rfl⟩ := hcs.slice
        rw [Nat.add_assoc] at c2 c3 c4
        have hwent := HB.out.trans HEr.out
        have d0 := (cell_in hwent hbw (off + j * 5)).trans c0
        have d1 := (cell_in hwent hbw (off + j * 5 + 1)).trans c1
        have d2 := (cell_in hwent hbw (off + j * 5 + 2)).trans c2
        have d3 := (cell_in hwent hbw (off + j * 5 + 3)).trans c3
        have d4 := (cell_in hwent hbw (off + j * 5 + 4)).trans c4
        have HC := veil hcs
        have hfd := HFD.out j hltk
        have HTy : Hid (tyFault x.params[j].is 1 = 0) := by
          show _ = _
          unfold fdFault at hfd
          split at hfd
          · exact hfd
          · omega
        have HST : Hid (fdTo x.params (j + 1) = fdTo x.params j ++ ((if j = 0 then [] else [44, 32]) ++ fdShown x.params[j])) := by show _ = _; rw [fdTo, List.getElem?_eq_getElem hltk]; rfl
        have HFS : Hid (fdShown x.params[j] = x.params[j].name.data.toList ++ ([58, 32] ++ tyShown x.params[j].is)) := rfl
        have HLE' : Hid ((fdTo x.params j).length + ((if j = 0 then [] else [44, 32] : List UInt8).length + (x.params[j].name.data.toList.length + (2 + (tyShown x.params[j].is).length))) ≤ (fdTo x.params x.params.length).length) := by
          show _ ≤ _
          have := fdTo_le x.params (j + 1) x.params.length hltk
          rw [HST.out, HFS.out] at this
          simpa only [List.length_append, List.length_cons, List.length_nil] using this
        have HWa := veil (HWr.out.below ((Below.refl _ _).alloc (Nat.le_refl _) (.cells #[.string x.params[j].name, .int .i64 kd, .string fo, .string na, .slice vb1 vb2 vb3] 43)))
        have HEa := veil (HEr.out.alloc (by omega) (.cells #[.string x.params[j].name, .int .i64 kd, .string fo, .string na, .slice vb1 vb2 vb3] 43))
        have HNew2 := veil (heap_alloc_new wr (.cells #[.string x.params[j].name, .int .i64 kd, .string fo, .string na, .slice vb1 vb2 vb3] 43))
        have hnb : wr.heap.size ≠ b := by omega
        clear c0 c1 c2 c3 c4 hcs hrow hty hfd HWr HEr hwent HPR HFD
        generalize x.params[j] = pj at *
        go_wp2_with fail
        refine (comma_any B b j _ _ HWa.out ?_).mono ?_
        · intro hk0
          have h1 := HLE'.out
          have h2 := hlen
          rw [if_neg hk0] at h1
          simp only [List.length_cons, List.length_nil] at h1
          simp only [List.length_append, List.length_cons, List.length_nil]
          omega
        rintro e w2 ⟨rfl, q1, q2⟩
        have HW2 := veil q1
        have HE2 := veil (HEa.out.trans q2)
        have HQ2 := veil (fun (W : World) (h : Went B b w2 W) (o : Nat) => (q2.trans h).cell HNew2.out hnb (by decide) o)
        have e0 : w2.cell? ⟨wr.heap.size, 0, none⟩ = some (.string pj.name) := q2.cell HNew2.out hnb (by decide) 0
        clear q1 q2 HWa HEa d0 d1 d2 d3 d4
        go_wp2_with fail
        refine (write_new B b _ [pj.name, ⟨#[58, 32]⟩] w2 _ _ _ (by simp) rfl rfl (pj.name.data.toList ++ [58, 32]) HW2.out (by simp) (by simp [joined]) ?_).mono ?_
        · have h1 := HLE'.out
          have h2 := hlen
          simp only [List.length_append, List.length_cons, List.length_nil]
          omega
        rintro e w3 ⟨rfl, q1, q2⟩
        have HW3 := veil q1
        have HE3 := veil (HE2.out.trans q2)
        have e1 : w3.cell? ⟨wr.heap.size, 1, none⟩ = some (.int .i64 kd) := HQ2.out w3 q2 1
        have e2 : w3.cell? ⟨wr.heap.size, 2, none⟩ = some (.string fo) := HQ2.out w3 q2 2
        have e3 : w3.cell? ⟨wr.heap.size, 3, none⟩ = some (.string na) := HQ2.out w3 q2 3
        have e4 : w3.cell? ⟨wr.heap.size, 4, none⟩ = some (.slice vb1 vb2 vb3) := HQ2.out w3 q2 4
        clear q1 q2 HQ2 e0 HW2 HE2
        go_wp2_with fail
        refine (typ_any 10 1 (by omega) S B b pj.is _ _ w3 hS ⟨_, _, _, _, rfl, HC.out.keep (Keeps.below (HB.out.trans HE3.out).below hS)⟩ HTy.out HW3.out ?_).mono ?_
        · have h1 := HLE'.out
          have h2 := hlen
          simp only [List.length_append, List.length_cons, List.length_nil]
          omega
        rintro e w4 ⟨rfl, q1, q2⟩
        have HW4 : Hid (Wrote B b ((l ++ ([102, 117, 110, 99, 32] ++ x.name.data.toList) ++ [40]) ++ fdTo x.params (j + 1)) w4) := by
          show Wrote _ _ _ _
          rw [HST.out, HFS.out]
          simpa [List.append_assoc] using q1
        have HE4 := veil (HE3.out.trans q2)
        clear q1 q2 HW3 HE3 e1 e2 e3 e4
        go_wp2_with fail
        exact ⟨⟨j + 1, by omega, by go_num, HW4.out, HE4.out⟩, by simp [intOf]; omega⟩
      · have hkl : j = x.params.length := by omega
        subst hkl
        clear HPR HFD
        have HQ := veil (fun (W : World) (h : Went B b (w.alloc (.cells #[.string x.name, .string x.var, .slice vp1 x.params.length vp3, .int .i64 k, .string f, .string n, .slice va1 va2 va3, .int .i64 k', .int .i64 n', .string f', .string s', .slice ve1 ve2 ve3] 49)) W) (o : Nat) => h.cell HNew.out hwb (by decide) o)
        go_wp2_with fail
        refine (write_new B b _ [⟨#[41, 58, 32]⟩] wr _ _ _ (by simp) rfl rfl [41, 58, 32] HWr.out (by decide) rfl (by simp only [List.length_append, List.length_cons, List.length_nil]; omega)).mono ?_
        rintro e w2 ⟨rfl, q1, q2⟩
        have HW2 := veil q1
        have HE2 := veil (HEr.out.trans q2)
        clear q1 q2 HWr HEr
        have e3 : w2.cell? ⟨w.heap.size, 3, none⟩ = some (.int .i64 k) := HQ.out w2 HE2.out 3
        have e4 : w2.cell? ⟨w.heap.size, 4, none⟩ = some (.string f) := HQ.out w2 HE2.out 4
        have e5 : w2.cell? ⟨w.heap.size, 5, none⟩ = some (.string n) := HQ.out w2 HE2.out 5
        have e6 : w2.cell? ⟨w.heap.size, 6, none⟩ = some (.slice va1 va2 va3) := HQ.out w2 HE2.out 6
        go_wp2_with fail
        refine (typ_any 10 1 (by omega) S B b x.result _ _ w2 hS ⟨_, _, _, _, rfl, HCT.out.keep (Keeps.below (HB.out.trans HE2.out).below hS)⟩ hres HW2.out (by simp only [List.length_append, List.length_cons, List.length_nil]; omega)).mono ?_
        rintro e w3 ⟨rfl, q1, q2⟩
        have HW3 := veil q1
        have HE3 := veil (HE2.out.trans q2)
        clear q1 q2 HW2 HE2 e3 e4 e5 e6
        go_wp2_with fail
        refine (write_new B b _ [⟨#[32, 61, 32]⟩] w3 _ _ _ (by simp) rfl rfl [32, 61, 32] HW3.out (by decide) rfl (by simp only [List.length_append, List.length_cons, List.length_nil]; omega)).mono ?_
        rintro e w4 ⟨rfl, q1, q2⟩
        have HW4 := veil q1
        have HE4 := veil (HE3.out.trans q2)
        clear q1 q2 HW3 HE3
        have e3 : w4.cell? ⟨w.heap.size, 7, none⟩ = some (.int .i64 k') := HQ.out w4 HE4.out 7
        have e4 : w4.cell? ⟨w.heap.size, 8, none⟩ = some (.int .i64 n') := HQ.out w4 HE4.out 8
        have e5 : w4.cell? ⟨w.heap.size, 9, none⟩ = some (.string f') := HQ.out w4 HE4.out 9
        have e6 : w4.cell? ⟨w.heap.size, 10, none⟩ = some (.string s') := HQ.out w4 HE4.out 10
        have e7 : w4.cell? ⟨w.heap.size, 11, none⟩ = some (.slice ve1 ve2 ve3) := HQ.out w4 HE4.out 11
        go_wp2_with fail
        refine (expr_any 10 1 (by omega) S B b x.body _ _ w4 hS ⟨_, _, _, _, _, rfl, HCE.out.keep (Keeps.below (HB.out.trans HE4.out).below hS)⟩ hbody HW4.out (HTab.out.keep (HB.out.trans HE4.out).below) (by simp only [List.length_append, List.length_cons, List.length_nil]; omega)).mono ?_
        rintro e w5 ⟨rfl, q1, q2⟩
        go_wp2_with fail
        go_end0
        exact ⟨rfl, by simpa [List.append_assoc] using q1, (HB.out.trans HE4.out).trans q2⟩

end Go.Proofs.YtaphjoggjfmbfabDoor
