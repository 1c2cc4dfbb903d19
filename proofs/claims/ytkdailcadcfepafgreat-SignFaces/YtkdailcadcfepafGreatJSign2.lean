/- What sign.takes answers: the kinds of params, or what is wrong with the first one that is not right. -/
import Derived.Test.YtkdailcadcfepafGreatJSign1
import Derived.Test.YtkdailcadcfepafGreatJAo
import Derived.Deep.RegionWith
namespace Go.Proofs.YtkdailcadcfepafGreat
open Go.RowKit
set_option maxRecDepth 100000

/-! ### In plain words. -/

def parSol (ρ : Ty → Sol) (ps : List Fd) (i : Nat) : Sol := match ps[i]? with
  | some p => if hasFd (ps.take i) p.name = true then (noneS, 4) else ρ p.is
  | none => (noneS, 4)
def upErr (c : Nat → Int) : Nat → Int
  | 0 => 0
  | k + 1 => if upErr c k ≠ 0 then upErr c k else c k
def kindsOf (ρ : Ty → Sol) (ps : List Fd) : List ByteArray := ps.map fun p => (ρ p.is).1
def parErr (ρ : Ty → Sol) (ps : List Fd) : Int := upErr (fun i => (parSol ρ ps i).2) ps.length

theorem kindsOf_at {ρ : Ty → Sol} {ps : List Fd} {j : Nat} (h : j < ps.length) (h' : j < (kindsOf ρ ps).length) : (kindsOf ρ ps)[j] = (ρ ps[j].is).1 := List.getElem_map ..
theorem parSol_at {ρ : Ty → Sol} {ps : List Fd} {i : Nat} (h : i < ps.length) : parSol ρ ps i = if hasFd (ps.take i) ps[i].name = true then (noneS, 4) else ρ ps[i].is := by
  unfold parSol
  rw [List.getElem?_eq_getElem h]
theorem upErr_none {c : Nat → Int} : ∀ {k : Nat}, (∀ j, j < k → c j = 0) → upErr c k = 0
  | 0, _ => rfl
  | k + 1, h => by
    have e := upErr_none (c := c) (k := k) (fun j hj => h j (by omega))
    rw [upErr, if_neg (by rw [e]; simp), h k (by omega)]
theorem upErr_at {c : Nat → Int} {i : Nat} (h0 : ∀ j, j < i → c j = 0) (hi : c i ≠ 0) : ∀ {k : Nat}, i < k → upErr c k = c i
  | 0, h => absurd h (by omega)
  | k + 1, h => by
    by_cases he : i = k
    · subst he
      rw [upErr, if_neg (by rw [upErr_none h0]; simp)]
    · have e := upErr_at h0 hi (k := k) (by omega)
      rw [upErr, e, if_pos hi]

/-! ### Parts of lists. -/

set_option maxRecDepth 100000 in
theorem sizeFd (W : World) : (sizeOf (Tryz.prog.elem 23)).run Tryz.prog W = .ok 5 W := by
  have : (sizeOf 65).run Tryz.prog W = .ok 5 W := by simp [go_sem]
  exact this
set_option maxRecDepth 100000 in
theorem cut_fd {S : Nat → Prop} {w : World} {u : List Fd} {a : Option Addr} {n cap : Nat} (h : SlAt S (FdAt S w) 5 u (.slice a n cap)) {k : Nat} (hk : k ≤ u.length) :
    ∃ a' cap', (∀ W, (Instr.slice 23 (.slice a n cap) none (some (.int .i64 (k : Int))) none).run Tryz.prog W = .ok (.slice a' k cap') W) ∧ SlAt S (FdAt S w) 5 (u.take k) (.slice a' k cap') := by
  have hcap : k ≤ cap := by
    obtain ⟨_, _, e, ⟨_, h2⟩, _⟩ := h
    injection e with e1 e2 e3
    omega
  obtain ⟨a', cap', e, hp⟩ := sl_part h (i := 0) (j := k) (Nat.zero_le _) hk
  rw [List.drop_zero, Nat.sub_zero] at hp
  rw [Nat.sub_zero] at e
  refine ⟨a', cap', fun W => ?_, hp⟩
  rw [run_slice_h W _ a n cap Tryz.underlying23 .i64 k (by omega) (by omega), sizeFd]
  simpa using e
set_option maxRecDepth 100000 in
theorem sizeFu (W : World) : (sizeOf (Tryz.prog.elem 24)).run Tryz.prog W = .ok 12 W := by
  have : (sizeOf 50).run Tryz.prog W = .ok 12 W := by simp [go_sem]
  exact this
set_option maxRecDepth 100000 in
theorem cut_fu {S : Nat → Prop} {w : World} {u : List Fu} {a : Option Addr} {n cap : Nat} (h : SlAt S (FuAt S w) 12 u (.slice a n cap)) {k : Nat} (hk : k ≤ u.length) :
    ∃ a' cap', (∀ W, (Instr.slice 24 (.slice a n cap) none (some (.int .i64 (k : Int))) none).run Tryz.prog W = .ok (.slice a' k cap') W) ∧ SlAt S (FuAt S w) 12 (u.take k) (.slice a' k cap') := by
  have hcap : k ≤ cap := by
    obtain ⟨_, _, e, ⟨_, h2⟩, _⟩ := h
    injection e with e1 e2 e3
    omega
  obtain ⟨a', cap', e, hp⟩ := sl_part h (i := 0) (j := k) (Nat.zero_le _) hk
  rw [List.drop_zero, Nat.sub_zero] at hp
  rw [Nat.sub_zero] at e
  refine ⟨a', cap', fun W => ?_, hp⟩
  rw [run_slice_h W _ a n cap Tryz.underlying24 .i64 k (by omega) (by omega), sizeFu]
  simpa using e

/-! ### The code. -/

/-- what sign.takes tells. -/
def Takes (w : World) (ρ : Ty → Sol) (ps : List Fd) (e : Ending) (w' : World) : Prop :=
  ∃ a n cap, e = .returned (.tuple #[.slice a n cap, .int .i64 (parErr ρ ps)]) ∧ (parErr ρ ps = 0 → SlAt (fun b => w.heap.size ≤ b ∧ b < w'.heap.size) (StrAt w') 1 (kindsOf ρ ps) (.slice a n cap)) ∧ Below w.heap.size w w'

set_option maxRecDepth 100000 in
set_option maxHeartbeats 8000000 in
theorem takes_any (S : Nat → Prop) (ρ : Ty → Sol) (ps : List Fd) (v : Value) (mB lB fB : Nat) (w : World) (hS : ∀ b, S b → b < w.heap.size) (hv : SlAt S (FdAt S w) 5 ps v) (h8 : ps.length ≤ 8) (hty : ∀ p ∈ ps, tyFault p.is 1 = 0) (hρ : ∀ t, (ρ t).1.size ≤ maxLen)
    (HF : ∀ W t u, Below w.heap.size w W → tyFault t 1 = 0 → TyIs S W t u → Calls Tryz.prog 29 #[u, .pointer (some ⟨mB, 0, none⟩), .pointer (some ⟨lB, 0, none⟩), .pointer (some ⟨fB, 0, none⟩)] W (Tells W (ρ t))) :
    Calls Tryz.prog 46 #[v, .func (.func 29) #[] #[.pointer (some ⟨mB, 0, none⟩), .pointer (some ⟨lB, 0, none⟩), .pointer (some ⟨fB, 0, none⟩)]] w (Takes w ρ ps) := by
  have hr := reachBytes_lt
  have HV := veil hv
  obtain ⟨a, cap, rfl⟩ := hv.is
  have hlen : ps.length ≤ 9223372036854775807 := by omega
  have hkl : (kindsOf ρ ps).length = ps.length := List.length_map ..
  obtain ⟨arr, harr, hmk⟩ := made_row Tryz.underlying22 str_info ps.length (by omega) (by unfold maxLen; omega)
  have HJ : Hid (RowJ w 9 1 (StrP w.heap.size) (kindsOf ρ ps) 0 (w.alloc (.cells arr 9))) := RowJ.start (by rw [hkl]; exact harr)
  have HFv := veil HF
  have HTy := veil hty
  have HRo := veil hρ
  have HKl := veil hkl
  clear hv harr HF hty hρ hkl
  go_enter Tryz.func46, Tryz.ntmps46
  go_wp2_with fail
  clear hmk
  go_loopw [16] (fun i wr => ∃ j : Nat, j ≤ ps.length ∧ i = .int .i64 j ∧ (∀ q, q < j → (parSol ρ ps q).2 = 0) ∧ RowJ w 9 1 (StrP w.heap.size) (kindsOf ρ ps) j wr) (fun i _ => ps.length - (intOf i).toNat)
  case atStart => exact ⟨0, Nat.zero_le _, rfl, fun _ h => absurd h (by omega), HJ.out⟩
  case round =>
    obtain ⟨j, hj, rfl, hall, hrj⟩ := hrel
    have HAll := veil hall
    have HR := veil hrj
    clear HJ hall
    by_cases hlt : j < ps.length
    · have hlt' : (j : Int) < (ps.length : Int) := by omega
      have hj0 : (0 : Int) ≤ (j : Int) := by omega
      obtain ⟨cu, cc, hrun, hcut⟩ := cut_fd HV.out (k := j) (by omega)
      obtain ⟨_, b, off, rfl, hb, hat⟩ := HV.out.at hlt
      obtain ⟨kd, fo, na, p1, p2, p3, a0, a1, a2, a3, a4, hcs⟩ := fd_cells hat
      have hbk := hS b hb
      have d0 := (hrj.bel.cell (p := ⟨b, off + j * 5, none⟩) hbk).trans a0
      have d1 := (hrj.bel.cell (p := ⟨b, off + j * 5 + 1, none⟩) hbk).trans a1
      have d2 := (hrj.bel.cell (p := ⟨b, off + j * 5 + 2, none⟩) hbk).trans a2
      have d3 := (hrj.bel.cell (p := ⟨b, off + j * 5 + 3, none⟩) hbk).trans a3
      have d4 := (hrj.bel.cell (p := ⟨b, off + j * 5 + 4, none⟩) hbk).trans a4
      have HTk : Hid (∀ W, Below w.heap.size w W → Calls Tryz.prog 75 #[.slice cu j cc, .string ps[j].name] W fun e w' => e = .returned (.bool (hasFd (ps.take j) ps[j].name)) ∧ Below W.heap.size W w') := fun W hW =>
        taken_any S (ps.take j) _ _ W (fun b hb => Nat.lt_of_lt_of_le (hS b hb) hW.size) (fdSl_keep (Keeps.below hW hS) hcut)
      have HSol : Hid (∀ W, Below w.heap.size w W → Calls Tryz.prog 29 #[.agg #[.int .i64 kd, .string fo, .string na, .slice p1 p2 p3], .pointer (some ⟨mB, 0, none⟩), .pointer (some ⟨lB, 0, none⟩), .pointer (some ⟨fB, 0, none⟩)] W (Tells W (ρ ps[j].is))) := fun W hW =>
        HFv.out W _ _ hW (HTy.out _ (List.getElem_mem hlt)) ⟨_, _, _, _, rfl, hcs.keep (Keeps.below hW hS)⟩
      have hkj : j < (kindsOf ρ ps).length := by rw [HKl.out]; exact hlt
      have hkv : (kindsOf ρ ps)[j] = (ρ ps[j].is).1 := kindsOf_at hlt hkj
      have HN : Hid (∀ W1, Below wr.heap.size wr W1 → RowJ w 9 1 (StrP w.heap.size) (kindsOf ρ ps) (j + 1) (W1.setCell ⟨w.heap.size, j, none⟩ (.string (ρ ps[j].is).1))) := fun W1 h1 => by
        have := hrj.step (strP_stays _) h1 hkj [.string (ρ ps[j].is).1] rfl (fun hc _ _ => ⟨by rw [hkv]; exact hc 0 (by simp), by rw [hkv]; exact HRo.out _⟩)
        rw [Nat.mul_one] at this
        exact this
      have HRm : Hid (∀ W1, Below wr.heap.size wr W1 → (∃ u, W1.cell? ⟨w.heap.size, j, none⟩ = some u) ∧ W1.frozen? ⟨w.heap.size, j, none⟩ = false) := fun W1 h1 => by
        have := hrj.room h1 hkj 0 (by omega)
        rw [Nat.mul_one] at this
        exact this
      have HBw : Hid (∀ W, Below wr.heap.size wr W → Below w.heap.size w W) := fun W hW => hrj.bel.trans (hW.mono hrj.bel.size)
      have HPs := veil (parSol_at (ρ := ρ) hlt)
      have HErr : Hid ((parSol ρ ps j).2 ≠ 0 → parErr ρ ps = (parSol ρ ps j).2) := fun h => upErr_at (c := fun i => (parSol ρ ps i).2) HAll.out h hlt
      have hbr : b < wr.heap.size := Nat.lt_of_lt_of_le hbk hrj.bel.size
      have hrlt := hrj.lt
      clear hrj a0 a1 a2 a3 a4 hat hcs HV HFv HTy HRo hcut hkv
      generalize ps[j].name = nm at *
      generalize ρ ps[j].is = r at *
      generalize hasFd (ps.take j) nm = tk at *
      generalize hpj : parSol ρ ps j = pj at *
      obtain ⟨rs, rc⟩ := r
      obtain ⟨W1, HW1, e0, e1, e2, e3, e4, hs1, hb1⟩ : ∃ W1, Hid (wr.alloc (.cells #[.string nm, .int .i64 kd, .string fo, .string na, .slice p1 p2 p3] 65) = W1) ∧ W1.cell? ⟨wr.heap.size, 0, none⟩ = some (.string nm) ∧ W1.cell? ⟨wr.heap.size, 1, none⟩ = some (.int .i64 kd) ∧ W1.cell? ⟨wr.heap.size, 2, none⟩ = some (.string fo) ∧ W1.cell? ⟨wr.heap.size, 3, none⟩ = some (.string na) ∧ W1.cell? ⟨wr.heap.size, 4, none⟩ = some (.slice p1 p2 p3) ∧ W1.heap.size = wr.heap.size + 1 ∧ Below wr.heap.size wr W1 :=
        ⟨_, rfl, by simp [go_sem], by simp [go_sem], by simp [go_sem], by simp [go_sem], by simp [go_sem], by simp, (Below.refl _ _).alloc (Nat.le_refl _) _⟩
      have HB1 := veil (HBw.out _ hb1.drew)
      have HB1r := veil hb1.drew
      clear hb1
      go_wp2_with fail
      rw [HW1.out]
      clear HW1
      go_region_with (go_at_call 75; refine (HTk.out _ HB1.out).mono ?_; rintro e w2 ⟨rfl, hb2⟩)
      all_goals
        have HB2 := veil (HB1.out.trans (hb2.mono HB1.out.size))
        have HB2r := veil (HB1r.out.trans (hb2.mono HB1r.out.size))
        have hwr2 : wr.heap.size < W1.drew.heap.size := by show _ < W1.heap.size; omega
        have g1 := (hb2.cell (p := ⟨wr.heap.size, 1, none⟩) hwr2).trans e1
        have g2 := (hb2.cell (p := ⟨wr.heap.size, 2, none⟩) hwr2).trans e2
        have g3 := (hb2.cell (p := ⟨wr.heap.size, 3, none⟩) hwr2).trans e3
        have g4 := (hb2.cell (p := ⟨wr.heap.size, 4, none⟩) hwr2).trans e4
        clear hb2 hwr2 e0 e1 e2 e3 e4 d0 d1 d2 d3 d4 hrun
        cases tk with
        | true =>
          have hpj2 : pj.2 = 4 := by rw [HPs.out, if_pos rfl]
          have HE : Hid (parErr ρ ps = 4) := by
            show _ = _
            rw [HErr.out (by rw [hpj2]; decide), hpj2]
          clear HErr HPs hpj2 hpj HN HRm HAll
          go_wp2_with fail
          go_ret2
          exact ⟨_, _, _, by rw [HE.out]; rfl, fun h => by rw [HE.out] at h; exact absurd h (by decide), HB2.out⟩
        | false =>
          have hpr : pj = (rs, rc) := by rw [HPs.out, if_neg (by decide)]
          go_wp2_with fail
          refine (HSol.out _ HB2.out).mono ?_
          rintro e w3 ⟨rfl, hb3⟩
          have HB3 := veil (HB2.out.trans (hb3.mono HB2.out.size))
          have hb3r := HB2r.out.trans (hb3.mono HB2r.out.size)
          obtain ⟨⟨y, hy⟩, hfz⟩ := HRm.out _ hb3r
          have HN' := veil (HN.out _ hb3r)
          clear hb3 hb3r g1 g2 g3 g4
          by_cases hc : rc = 0
          · subst hc
            have HAll' : Hid (∀ q, q < j + 1 → (parSol ρ ps q).2 = 0) := fun q hq => by
              by_cases hqj : q < j
              · exact HAll.out q hqj
              · have e : q = j := by omega
                rw [e, hpj, hpr]
            clear HErr HPs HAll HN HRm hpr hpj
            go_wp2_with fail
            exact ⟨⟨j + 1, by omega, by go_num, HAll'.out, HN'.out⟩, by simp [intOf]; omega⟩
          · have hc' : (rc != 0) = true := by simp [hc]
            have HE : Hid (parErr ρ ps = rc) := by
              show _ = _
              rw [HErr.out (by rw [hpr]; exact hc), hpr]
            have HNe : Hid (¬ rc = 0) := hc
            clear HErr HPs HAll HN HRm hpr hpj HN' hc hy hfz
            go_wp2_with fail
            go_ret2
            exact ⟨_, _, _, by rw [HE.out]; rfl, fun h => by rw [HE.out] at h; exact absurd h HNe.out, HB3.out⟩
    · have hnl : ¬ (j : Int) < (ps.length : Int) := by omega
      have hje : j = ps.length := by omega
      subst hje
      have HZ : Hid (parErr ρ ps = 0) := upErr_none HAll.out
      have HW : Hid (SlAt (fun b => w.heap.size ≤ b ∧ b < wr.heap.size) (StrAt wr) 1 (kindsOf ρ ps) (.slice (some ⟨w.heap.size, 0, none⟩) ps.length ps.length)) := by
        have h2 : RowJ w 9 1 (StrP w.heap.size) (kindsOf ρ ps) (kindsOf ρ ps).length wr := by rw [HKl.out]; exact hrj
        have := h2.whole (by rw [HKl.out]; unfold maxLen; omega) (S := fun b => w.heap.size ≤ b ∧ b < wr.heap.size) ⟨Nat.le_refl _, hrj.lt⟩ (Q := StrAt wr) (fun _ _ h => h)
        rwa [HKl.out] at this
      have HB := veil hrj.bel
      clear hrj HV HAll HR
      go_wp2_with fail
      go_ret2
      exact ⟨_, _, _, by rw [HZ.out]; rfl, fun _ => HW.out, HB.out⟩

end Go.Proofs.YtkdailcadcfepafGreat
