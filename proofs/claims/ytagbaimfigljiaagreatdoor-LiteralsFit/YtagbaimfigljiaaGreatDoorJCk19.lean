import Derived.Test.YtagbaimfigljiaaGreatDoorJCk18
import Derived.Test.YtagbaimfigljiaaGreatDoorJCk17
import Derived.Test.YtagbaimfigljiaaGreatDoorJCk0
import Derived.Test.YtagbaimfigljiaaGreatDoorJCk12
import Derived.Deep.RegionWith
import Derived.Deep.AppendLies
namespace Go.Proofs.YtagbaimfigljiaaGreatDoor
open Go.RowKit
set_option maxRecDepth 100000

/-! ### In plain words. -/

def parSol (ρ : Ty → Sol) (ps : List Fd) (i : Nat) : Sol := match ps[i]? with
  | some p => if hasFd (ps.take i) p.name = true then (noneS, 4) else ρ p.is
  | none => (noneS, 4)
def upErr (c : Nat → Int) : Nat → Int
  | 0 => 0
  | k + 1 => if upErr c k ≠ 0 then upErr c k else c k
def kindsOf (ρ : Ty → Sol) (ps : List Fd) : List ByteArray := ps.map fun p => (ρ p.is).1
def parErr (ρ : Ty → Sol) (ps : List Fd) : Int := upErr (fun i => (parSol ρ ps i).2) ps.length

theorem kindsOf_at {ρ : Ty → Sol} {ps : List Fd} {j : Nat} (h : j < ps.length) (h' : j < (kindsOf ρ ps).length) : (kindsOf ρ ps)[j] = (ρ ps[j].is).1 := List.getElem_map ..
theorem parSol_at {ρ : Ty → Sol} {ps : List Fd} {i : Nat} (h : i < ps.length) : parSol ρ ps i = if hasFd (ps.take i) ps[i].name = true then (noneS, 4) else ρ ps[i].is := by
  unfold parSol
  rw [List.getElem?_eq_getElem h]
theorem upErr_none {c : Nat → Int} : ∀ {k : Nat}, (∀ j, j < k → c j = 0) → upErr c k = 0
  | 0, _ => rfl
  | k + 1, h => by
    have e := upErr_none (c := c) (k := k) (fun j hj => h j (by omega))
    rw [upErr, if_neg (by rw [e]; simp), h k (by omega)]
theorem upErr_at {c : Nat → Int} {i : Nat} (h0 : ∀ j, j < i → c j = 0) (hi : c i ≠ 0) : ∀ {k : Nat}, i < k → upErr c k = c i
  | 0, h => absurd h (by omega)
  | k + 1, h => by
    by_cases he : i = k
    · subst he
      rw [upErr, if_neg (by rw [upErr_none h0]; simp)]
    · have e := upErr_at h0 hi (k := k) (by omega)
      rw [upErr, e, if_pos hi]

/-! ### Parts of lists. -/

set_option maxRecDepth 100000 in
theorem sizeFd (W : World) : (sizeOf (Tryz.prog.elem 41)).run Tryz.prog W = .ok 5 W := by
  have : (sizeOf 101).run Tryz.prog W = .ok 5 W := by simp [go_sem]
  exact this
set_option maxRecDepth 100000 in
theorem cut_fd {S : Nat → Prop} {w : World} {u : List Fd} {a : Option Addr} {n cap : Nat} (h : SlAt S (FdAt S w) 5 u (.slice a n cap)) {k : Nat} (hk : k ≤ u.length) :
    ∃ a' cap', (∀ W, (Instr.slice 41 (.slice a n cap) none (some (.int .i64 (k : Int))) none).run Tryz.prog W = .ok (.slice a' k cap') W) ∧ SlAt S (FdAt S w) 5 (u.take k) (.slice a' k cap') := by
  have hcap : k ≤ cap := by
    obtain ⟨_, _, e, ⟨_, h2⟩, _⟩ := h
    injection e with e1 e2 e3
    omega
  obtain ⟨a', cap', e, hp⟩ := sl_part h (i := 0) (j := k) (Nat.zero_le _) hk
  rw [List.drop_zero, Nat.sub_zero] at hp
  rw [Nat.sub_zero] at e
  refine ⟨a', cap', fun W => ?_, hp⟩
  rw [run_slice_h W _ a n cap Tryz.underlying41 .i64 k (by omega) (by omega), sizeFd]
  simpa using e
set_option maxRecDepth 100000 in
theorem sizeFu (W : World) : (sizeOf (Tryz.prog.elem 42)).run Tryz.prog W = .ok 12 W := by
  have : (sizeOf 89).run Tryz.prog W = .ok 12 W := by simp [go_sem]
  exact this
set_option maxRecDepth 100000 in
theorem cut_fu {S : Nat → Prop} {w : World} {u : List Fu} {a : Option Addr} {n cap : Nat} (h : SlAt S (FuAt S w) 12 u (.slice a n cap)) {k : Nat} (hk : k ≤ u.length) :
    ∃ a' cap', (∀ W, (Instr.slice 42 (.slice a n cap) none (some (.int .i64 (k : Int))) none).run Tryz.prog W = .ok (.slice a' k cap') W) ∧ SlAt S (FuAt S w) 12 (u.take k) (.slice a' k cap') := by
  have hcap : k ≤ cap := by
    obtain ⟨_, _, e, ⟨_, h2⟩, _⟩ := h
    injection e with e1 e2 e3
    omega
  obtain ⟨a', cap', e, hp⟩ := sl_part h (i := 0) (j := k) (Nat.zero_le _) hk
  rw [List.drop_zero, Nat.sub_zero] at hp
  rw [Nat.sub_zero] at e
  refine ⟨a', cap', fun W => ?_, hp⟩
  rw [run_slice_h W _ a n cap Tryz.underlying42 .i64 k (by omega) (by omega), sizeFu]
  simpa using e

/-! ### The code. -/

/-- what sign.takes tells. -/
def Takes (w : World) (ρ : Ty → Sol) (ps : List Fd) (e : Ending) (w' : World) : Prop :=
  ∃ a n cap, e = .returned (.tuple #[.slice a n cap, .int .i64 (parErr ρ ps)]) ∧ (parErr ρ ps = 0 → SlAt (fun b => w.heap.size ≤ b ∧ b < w'.heap.size) (StrAt w') 1 (kindsOf ρ ps) (.slice a n cap)) ∧ Below w.heap.size w w'

set_option maxRecDepth 100000 in
set_option maxHeartbeats 8000000 in
theorem takes_any (S : Nat → Prop) (ρ : Ty → Sol) (ps : List Fd) (v : Value) (mB lB fB : Nat) (w : World) (hS : ∀ b, S b → b < w.heap.size) (hv : SlAt S (FdAt S w) 5 ps v) (h8 : ps.length ≤ 8) (hty : ∀ p ∈ ps, tyFault p.is 1 = 0) (hρ : ∀ t, (ρ t).1.size ≤ maxLen)
    (HF : ∀ W t u, Below w.heap.size w W → tyFault t 1 = 0 → TyIs S W t u → Calls Tryz.prog 155 #[u, .pointer (some ⟨mB, 0, none⟩), .pointer (some ⟨lB, 0, none⟩), .pointer (some ⟨fB, 0, none⟩)] W (Tells W (ρ t))) :
    Calls Tryz.prog 221 #[v, .func (.func 155) #[] #[.pointer (some ⟨mB, 0, none⟩), .pointer (some ⟨lB, 0, none⟩), .pointer (some ⟨fB, 0, none⟩)]] w (Takes w ρ ps) := by
  have hr := reachBytes_lt
  have HV := veil hv
  obtain ⟨a, cap, rfl⟩ := hv.is
  have hlen : ps.length ≤ 9223372036854775807 := by omega
  have hkl : (kindsOf ρ ps).length = ps.length := List.length_map ..
  obtain ⟨arr, harr, hmk⟩ := made_row Tryz.underlying22 str_info ps.length (by omega) (by unfold maxLen; omega)
  have HJ : Hid (RowJ w 9 1 (StrP w.heap.size) (kindsOf ρ ps) 0 (w.alloc (.cells arr 9))) := RowJ.start (by rw [hkl]; exact harr)
  have HFv := veil HF
  have HTy := veil hty
  have HRo := veil hρ
  have HKl := veil hkl
  clear hv harr HF hty hρ hkl
  go_enter Tryz.func221, Tryz.ntmps221
  go_wp2_with fail
  clear hmk
  go_loopw [16] (fun i wr => ∃ j : Nat, j ≤ ps.length ∧ i = .int .i64 j ∧ (∀ q, q < j → (parSol ρ ps q).2 = 0) ∧ RowJ w 9 1 (StrP w.heap.size) (kindsOf ρ ps) j wr) (fun i _ => ps.length - (intOf i).toNat)
  case atStart => exact ⟨0, Nat.zero_le _, rfl, fun _ h => absurd h (by omega), HJ.out⟩
  case round =>
    obtain ⟨j, hj, rfl, hall, hrj⟩ := hrel
    have HAll := veil hall
    have HR := veil hrj
    clear HJ hall
    by_cases hlt : j < ps.length
    · have hlt' : (j : Int) < (ps.length : Int) := by omega
      have hj0 : (0 : Int) ≤ (j : Int) := by omega
      obtain ⟨cu, cc, hrun, hcut⟩ := cut_fd HV.out (k := j) (by omega)
      obtain ⟨_, b, off, rfl, hb, hat⟩ := HV.out.at hlt
      obtain ⟨kd, fo, na, p1, p2, p3, a0, a1, a2, a3, a4, hcs⟩ := fd_cells hat
      have hbk := hS b hb
      have d0 := (hrj.bel.cell (p := ⟨b, off + j * 5, none⟩) hbk).trans a0
      have d1 := (hrj.bel.cell (p := ⟨b, off + j * 5 + 1, none⟩) hbk).trans a1
      have d2 := (hrj.bel.cell (p := ⟨b, off + j * 5 + 2, none⟩) hbk).trans a2
      have d3 := (hrj.bel.cell (p := ⟨b, off + j * 5 + 3, none⟩) hbk).trans a3
      have d4 := (hrj.bel.cell (p := ⟨b, off + j * 5 + 4, none⟩) hbk).trans a4
      have HTk : Hid (∀ W, Below w.heap.size w W → Calls Tryz.prog 289 #[.slice cu j cc, .string ps[j].name] W fun e w' => e = .returned (.bool (hasFd (ps.take j) ps[j].name)) ∧ Below W.heap.size W w') := fun W hW =>
        taken_any S (ps.take j) _ _ W (fun b hb => Nat.lt_of_lt_of_le (hS b hb) hW.size) (fdSl_keep (Keeps.below hW hS) hcut)
      have HSol : Hid (∀ W, Below w.heap.size w W → Calls Tryz.prog 155 #[.agg #[.int .i64 kd, .string fo, .string na, .slice p1 p2 p3], .pointer (some ⟨mB, 0, none⟩), .pointer (some ⟨lB, 0, none⟩), .pointer (some ⟨fB, 0, none⟩)] W (Tells W (ρ ps[j].is))) := fun W hW =>
        HFv.out W _ _ hW (HTy.out _ (List.getElem_mem hlt)) ⟨_, _, _, _, rfl, hcs.keep (Keeps.below hW hS)⟩
      have hkj : j < (kindsOf ρ ps).length := by rw [HKl.out]; exact hlt
      have hkv : (kindsOf ρ ps)[j] = (ρ ps[j].is).1 := kindsOf_at hlt hkj
      have HN : Hid (∀ W1, Below wr.heap.size wr W1 → RowJ w 9 1 (StrP w.heap.size) (kindsOf ρ ps) (j + 1) (W1.setCell ⟨w.heap.size, j, none⟩ (.string (ρ ps[j].is).1))) := fun W1 h1 => by
        have := hrj.step (strP_stays _) h1 hkj [.string (ρ ps[j].is).1] rfl (fun hc _ _ => ⟨by rw [hkv]; exact hc 0 (by simp), by rw [hkv]; exact HRo.out _⟩)
        rw [Nat.mul_one] at this
        exact this
      have HRm : Hid (∀ W1, Below wr.heap.size wr W1 → (∃ u, W1.cell? ⟨w.heap.size, j, none⟩ = some u) ∧ W1.frozen? ⟨w.heap.size, j, none⟩ = false) := fun W1 h1 => by
        have := hrj.room h1 hkj 0 (by omega)
        rw [Nat.mul_one] at this
        exact this
      have HBw : Hid (∀ W, Below wr.heap.size wr W → Below w.heap.size w W) := fun W hW => hrj.bel.trans (hW.mono hrj.bel.size)
      have HPs := veil (parSol_at (ρ := ρ) hlt)
      have HErr : Hid ((parSol ρ ps j).2 ≠ 0 → parErr ρ ps = (parSol ρ ps j).2) := fun h => upErr_at (c := fun i => (parSol ρ ps i).2) HAll.out h hlt
      have hbr : b < wr.heap.size := Nat.lt_of_lt_of_le hbk hrj.bel.size
      have hrlt := hrj.lt
      clear hrj a0 a1 a2 a3 a4 hat hcs HV HFv HTy HRo hcut hkv
      generalize ps[j].name = nm at *
      generalize ρ ps[j].is = r at *
      generalize hasFd (ps.take j) nm = tk at *
      generalize hpj : parSol ρ ps j = pj at *
      obtain ⟨rs, rc⟩ := r
      obtain ⟨W1, HW1, e0, e1, e2, e3, e4, hs1, hb1⟩ : ∃ W1, Hid (wr.alloc (.cells #[.string nm, .int .i64 kd, .string fo, .string na, .slice p1 p2 p3] 101) = W1) ∧ W1.cell? ⟨wr.heap.size, 0, none⟩ = some (.string nm) ∧ W1.cell? ⟨wr.heap.size, 1, none⟩ = some (.int .i64 kd) ∧ W1.cell? ⟨wr.heap.size, 2, none⟩ = some (.string fo) ∧ W1.cell? ⟨wr.heap.size, 3, none⟩ = some (.string na) ∧ W1.cell? ⟨wr.heap.size, 4, none⟩ = some (.slice p1 p2 p3) ∧ W1.heap.size = wr.heap.size + 1 ∧ Below wr.heap.size wr W1 :=
        ⟨_, rfl, by simp [go_sem], by simp [go_sem], by simp [go_sem], by simp [go_sem], by simp [go_sem], by simp, (Below.refl _ _).alloc (Nat.le_refl _) _⟩
      have HB1 := veil (HBw.out _ hb1.drew)
      have HB1r := veil hb1.drew
      clear hb1
      go_wp2_with fail
      rw [HW1.out]
      clear HW1
      go_region_with (go_at_call 289; refine (HTk.out _ HB1.out).mono ?_; rintro e w2 ⟨rfl, hb2⟩)
      all_goals
        have HB2 := veil (HB1.out.trans (hb2.mono HB1.out.size))
        have HB2r := veil (HB1r.out.trans (hb2.mono HB1r.out.size))
        have hwr2 : wr.heap.size < W1.drew.heap.size := by show _ < W1.heap.size; omega
        have g1 := (hb2.cell (p := ⟨wr.heap.size, 1, none⟩) hwr2).trans e1
        have g2 := (hb2.cell (p := ⟨wr.heap.size, 2, none⟩) hwr2).trans e2
        have g3 := (hb2.cell (p := ⟨wr.heap.size, 3, none⟩) hwr2).trans e3
        have g4 := (hb2.cell (p := ⟨wr.heap.size, 4, none⟩) hwr2).trans e4
        clear hb2 hwr2 e0 e1 e2 e3 e4 d0 d1 d2 d3 d4 hrun
        cases tk with
        | true =>
          have hpj2 : pj.2 = 4 := by rw [HPs.out, if_pos rfl]
          have HE : Hid (parErr ρ ps = 4) := by
            show _ = _
            rw [HErr.out (by rw [hpj2]; decide), hpj2]
          clear HErr HPs hpj2 hpj HN HRm HAll
          go_wp2_with fail
          go_ret2
          exact ⟨_, _, _, by rw [HE.out]; rfl, fun h => by rw [HE.out] at h; exact absurd h (by decide), HB2.out⟩
        | false =>
          have hpr : pj = (rs, rc) := by rw [HPs.out, if_neg (by decide)]
          go_wp2_with fail
          refine (HSol.out _ HB2.out).mono ?_
          rintro e w3 ⟨rfl, hb3⟩
          have HB3 := veil (HB2.out.trans (hb3.mono HB2.out.size))
          have hb3r := HB2r.out.trans (hb3.mono HB2r.out.size)
          obtain ⟨⟨y, hy⟩, hfz⟩ := HRm.out _ hb3r
          have HN' := veil (HN.out _ hb3r)
          clear hb3 hb3r g1 g2 g3 g4
          by_cases hc : rc = 0
          · subst hc
            have HAll' : Hid (∀ q, q < j + 1 → (parSol ρ ps q).2 = 0) := fun q hq => by
              by_cases hqj : q < j
              · exact HAll.out q hqj
              · have e : q = j := by omega
                rw [e, hpj, hpr]
            clear HErr HPs HAll HN HRm hpr hpj
            go_wp2_with fail
            exact ⟨⟨j + 1, by omega, by go_num, HAll'.out, HN'.out⟩, by simp [intOf]; omega⟩
          · have hc' : (rc != 0) = true := by simp [hc]
            have HE : Hid (parErr ρ ps = rc) := by
              show _ = _
              rw [HErr.out (by rw [hpr]; exact hc), hpr]
            have HNe : Hid (¬ rc = 0) := hc
            clear HErr HPs HAll HN HRm hpr hpj HN' hc hy hfz
            go_wp2_with fail
            go_ret2
            exact ⟨_, _, _, by rw [HE.out]; rfl, fun h => by rw [HE.out] at h; exact absurd h HNe.out, HB3.out⟩
    · have hnl : ¬ (j : Int) < (ps.length : Int) := by omega
      have hje : j = ps.length := by omega
      subst hje
      have HZ : Hid (parErr ρ ps = 0) := upErr_none HAll.out
      have HW : Hid (SlAt (fun b => w.heap.size ≤ b ∧ b < wr.heap.size) (StrAt wr) 1 (kindsOf ρ ps) (.slice (some ⟨w.heap.size, 0, none⟩) ps.length ps.length)) := by
        have h2 : RowJ w 9 1 (StrP w.heap.size) (kindsOf ρ ps) (kindsOf ρ ps).length wr := by rw [HKl.out]; exact hrj
        have := h2.whole (by rw [HKl.out]; unfold maxLen; omega) (S := fun b => w.heap.size ≤ b ∧ b < wr.heap.size) ⟨Nat.le_refl _, hrj.lt⟩ (Q := StrAt wr) (fun _ _ h => h)
        rwa [HKl.out] at this
      have HB := veil hrj.bel
      clear hrj HV HAll HR
      go_wp2_with fail
      go_ret2
      exact ⟨_, _, _, by rw [HZ.out]; rfl, fun _ => HW.out, HB.out⟩

end Go.Proofs.YtagbaimfigljiaaGreatDoor
namespace Go.Proofs.YtagbaimfigljiaaGreatDoor
open Go.RowKit
set_option maxRecDepth 100000

end Go.Proofs.YtagbaimfigljiaaGreatDoor
namespace Go.Proofs.YtagbaimfigljiaaGreatDoor
open Go.RowKit
set_option maxRecDepth 100000

end Go.Proofs.YtagbaimfigljiaaGreatDoor
namespace Go.Proofs.YtagbaimfigljiaaGreatDoor
open Go.RowKit
set_option maxRecDepth 100000

end Go.Proofs.YtagbaimfigljiaaGreatDoor
namespace Go.Proofs.YtagbaimfigljiaaGreatDoor
open Go.RowKit
set_option maxRecDepth 100000

end Go.Proofs.YtagbaimfigljiaaGreatDoor
namespace Go.Proofs.YtagbaimfigljiaaGreatDoor
open Go.RowKit
set_option maxRecDepth 100000

theorem refR_size {m : Mo} {l : List Im} (hz : ∀ i ∈ l, fcSmall i.face) : ∀ (u : Nat) (v : ByteArray) (under : List ByteArray) (o n : ByteArray), (refR m l u v under o n).1.size ≤ maxLen
  | 0, v, under, o, n => by
    unfold refR
    split
    · split
      · show (1 : Nat) ≤ _
        unfold maxLen; omega
      · split <;> exact Nat.zero_le _
    · exact impR_size hz o n
  | u + 1, v, under, o, n => by
    unfold refR
    split
    · split
      · show (1 : Nat) ≤ _
        unfold maxLen; omega
      · cases m.types[ownAt m n]? with
        | none => exact Nat.zero_le _
        | some f =>
          simp only
          split
          · exact Nat.zero_le _
          · exact solveP_size (fun o n => refR_size hz u _ _ o n) 10 _
    · exact impR_size hz o n

end Go.Proofs.YtagbaimfigljiaaGreatDoor
namespace Go.Proofs.YtagbaimfigljiaaGreatDoor
open Go.RowKit
set_option maxRecDepth 100000

/-- a type's kind, with a variable. -/
def rhoR (m : Mo) (l : List Im) (vv : ByteArray) (t : Ty) : Sol := solveP (refR m l m.types.length vv []) 10 t
theorem rhoR_size {m : Mo} {l : List Im} (hz : ∀ i ∈ l, fcSmall i.face) (vv : ByteArray) (t : Ty) : (rhoR m l vv t).1.size ≤ maxLen := solveP_size (fun o n => refR_size hz _ _ _ o n) 10 t

set_option maxHeartbeats 2000000 in
theorem oneCl_any (S : Nat → Prop) (m : Mo) (l : List Im) (vv : ByteArray) (t : Ty) (u1 t1 f1 la : Option Addr) (u2 u3 t2 t3 f2 f3 ln lc : Nat) (u : Value) (mB lB fB : Nat) (W : World) (hS : ∀ b, S b → b < W.heap.size) (hm : MoIs S W m (.agg #[.slice u1 u2 u3, .slice t1 t2 t3, .slice f1 f2 f3])) (hl : SlAt S (ImAt S W) 4 l (.slice la ln lc)) (hz : ∀ i ∈ l, fcSmall i.face) (hty : ∀ f ∈ m.types, tyFault f.is 1 = 0) (hn : m.types.length ≤ reachBytes)
    (ht : tyFault t 1 = 0) (hu : TyIs S W t u) (c0 : W.cell? ⟨mB, 0, none⟩ = some (.slice u1 u2 u3)) (c1 : W.cell? ⟨mB, 1, none⟩ = some (.slice t1 t2 t3)) (c2 : W.cell? ⟨mB, 2, none⟩ = some (.slice f1 f2 f3)) (c3 : W.cell? ⟨lB, 0, none⟩ = some (.slice la ln lc)) (c4 : W.cell? ⟨fB, 1, none⟩ = some (.string vv)) :
    Calls Tryz.prog 155 #[u, .pointer (some ⟨mB, 0, none⟩), .pointer (some ⟨lB, 0, none⟩), .pointer (some ⟨fB, 0, none⟩)] W (Tells W (rhoR m l vv t)) := by
  obtain ⟨k, fo, na, va, rfl, hcs⟩ := id hu
  obtain ⟨a, c, cap, rfl⟩ : ∃ a c cap, va = .slice a c cap := by
    obtain ⟨_, _, _, _, hs⟩ := hcs
    exact SlAt.slice hs
  have hb : Below W.heap.size W (W.alloc (.cells #[.int .i64 k, .string fo, .string na, .slice a c cap] 84)) := (Below.refl _ _).alloc (Nat.le_refl _) _
  have hC := solveAll_any S m l vv t _ _ _ _ (fun b hb' => Nat.lt_of_lt_of_le (hS b hb') hb.size) (hm.keep (Keeps.below hb hS)) (imSl_keep (Keeps.below hb hS) hl) hz hty ht (hu.keep (Keeps.below hb hS)) hn
  rw [solve_same ht] at hC
  have HC : Hid (Calls Tryz.prog 156 #[.agg #[.slice u1 u2 u3, .slice t1 t2 t3, .slice f1 f2 f3], .slice la ln lc, .string vv, .agg #[.int .i64 k, .string fo, .string na, .slice a c cap]] (W.alloc (.cells #[.int .i64 k, .string fo, .string na, .slice a c cap] 84)) (Tells (W.alloc (.cells #[.int .i64 k, .string fo, .string na, .slice a c cap] 84)) (rhoR m l vv t))) := hC
  have HB := veil hb
  have n0 := World.block_lt_of_cell? _ _ c0
  have n3 := World.block_lt_of_cell? _ _ c3
  have n4 := World.block_lt_of_cell? _ _ c4
  clear hC hb hcs hu hm hl hz hty hn ht hS
  generalize rhoR m l vv t = r at *
  go_enter Tryz.func155, Tryz.ntmps155
  go_wp2_with fail
  refine HC.out.mono ?_
  rintro e w3 ⟨rfl, hb3⟩
  have HB3 := veil (HB.out.trans (hb3.mono HB.out.size))
  clear hb3
  go_wp2_with fail
  go_ret2
  exact ⟨rfl, HB3.out⟩

def sigCode (ρ : Ty → Sol) (f : Fu) : Int := if parErr ρ f.params ≠ 0 then parErr ρ f.params else (ρ f.result).2
def sigOf (ρ : Ty → Sol) (f : Fu) : Sg := if sigCode ρ f = 0 then ⟨f.name, kindsOf ρ f.params, (ρ f.result).1⟩ else ⟨noneS, [], noneS⟩
theorem sgNil (S : Nat → Prop) (w : World) : SgIs S w ⟨noneS, [], noneS⟩ (.agg #[.string ⟨#[]⟩, .slice none 0 0, .string ⟨#[]⟩]) :=
  ⟨_, rfl, Nat.zero_le _, Nat.zero_le _, none, 0, rfl, ⟨by simp, by simp⟩, Or.inl rfl⟩

/-- a function's signature, and what is wrong. -/
def Signs (w : World) (g : Sg) (c : Int) (e : Ending) (w' : World) : Prop :=
  ∃ a n cap, e = .returned (.tuple #[.agg #[.string g.name, .slice a n cap, .string g.result], .int .i64 c]) ∧ SgIs (fun b => w.heap.size ≤ b ∧ b < w'.heap.size) w' g (.agg #[.string g.name, .slice a n cap, .string g.result]) ∧ Below w.heap.size w w'

set_option maxRecDepth 100000 in
set_option maxHeartbeats 4000000 in
theorem sig_any (S : Nat → Prop) (ρ : Ty → Sol) (f : Fu) (vp1 p1 ve1 : Option Addr) (vp2 vp3 p2 p3 ve2 ve3 : Nat) (kd ke ne : Int) (fo na fe se : ByteArray) (mB lB fB : Nat) (w : World) (hS : ∀ b, S b → b < w.heap.size) (hps : SlAt S (FdAt S w) 5 f.params (.slice vp1 vp2 vp3)) (hcs : TyCs S w f.result kd fo na (.slice p1 p2 p3)) (h8 : f.params.length ≤ 8) (hty : ∀ p ∈ f.params, tyFault p.is 1 = 0) (htr : tyFault f.result 1 = 0) (hnm : f.name.size ≤ 8) (hρ : ∀ t, (ρ t).1.size ≤ maxLen)
    (HF : ∀ W t u, Below w.heap.size w W → tyFault t 1 = 0 → TyIs S W t u → Calls Tryz.prog 155 #[u, .pointer (some ⟨mB, 0, none⟩), .pointer (some ⟨lB, 0, none⟩), .pointer (some ⟨fB, 0, none⟩)] W (Tells W (ρ t))) :
    Calls Tryz.prog 154 #[.agg #[.string f.name, .string f.var, .slice vp1 vp2 vp3, .int .i64 kd, .string fo, .string na, .slice p1 p2 p3, .int .i64 ke, .int .i64 ne, .string fe, .string se, .slice ve1 ve2 ve3], .func (.func 155) #[] #[.pointer (some ⟨mB, 0, none⟩), .pointer (some ⟨lB, 0, none⟩), .pointer (some ⟨fB, 0, none⟩)]] w (Signs w (sigOf ρ f) (sigCode ρ f)) := by
  obtain ⟨w2, hwe, hs2, hbel, x0, x3, x4, x5, x6, y0, y1, y2, z0, z1, z2⟩ : ∃ w2, (w.alloc (.cells #[.string f.name, .string f.var, .slice vp1 vp2 vp3, .int .i64 kd, .string fo, .string na, .slice p1 p2 p3, .int .i64 ke, .int .i64 ne, .string fe, .string se, .slice ve1 ve2 ve3] 89)).alloc (.cells #[.string ⟨#[]⟩, .slice none 0 0, .string ⟨#[]⟩] 65) = w2 ∧ w2.heap.size = w.heap.size + 2 ∧ Below w.heap.size w w2 ∧
      w2.cell? ⟨w.heap.size, 0, none⟩ = some (.string f.name) ∧ w2.cell? ⟨w.heap.size, 3, none⟩ = some (.int .i64 kd) ∧ w2.cell? ⟨w.heap.size, 4, none⟩ = some (.string fo) ∧ w2.cell? ⟨w.heap.size, 5, none⟩ = some (.string na) ∧ w2.cell? ⟨w.heap.size, 6, none⟩ = some (.slice p1 p2 p3) ∧
      w2.cell? ⟨w.heap.size + 1, 0, none⟩ = some (.string ⟨#[]⟩) ∧ w2.cell? ⟨w.heap.size + 1, 1, none⟩ = some (.slice none 0 0) ∧ w2.cell? ⟨w.heap.size + 1, 2, none⟩ = some (.string ⟨#[]⟩) ∧
      w2.frozen? ⟨w.heap.size + 1, 0, none⟩ = false ∧ w2.frozen? ⟨w.heap.size + 1, 1, none⟩ = false ∧ w2.frozen? ⟨w.heap.size + 1, 2, none⟩ = false :=
    ⟨_, rfl, by simp, ((Below.refl _ _).alloc (Nat.le_refl _) _).alloc (by simp) _, by simp [go_sem], by simp [go_sem], by simp [go_sem], by simp [go_sem], by simp [go_sem], by simp [go_sem], by simp [go_sem], by simp [go_sem], by simp [go_sem], by simp [go_sem], by simp [go_sem]⟩
  have HBox : Hid (∀ W, Below w2.heap.size w2 W → ((W.cell? ⟨w.heap.size, 0, none⟩ = some (.string f.name) ∧ W.cell? ⟨w.heap.size, 3, none⟩ = some (.int .i64 kd) ∧ W.cell? ⟨w.heap.size, 4, none⟩ = some (.string fo) ∧ W.cell? ⟨w.heap.size, 5, none⟩ = some (.string na) ∧ W.cell? ⟨w.heap.size, 6, none⟩ = some (.slice p1 p2 p3)) ∧
      (W.cell? ⟨w.heap.size + 1, 0, none⟩ = some (.string ⟨#[]⟩) ∧ W.cell? ⟨w.heap.size + 1, 1, none⟩ = some (.slice none 0 0) ∧ W.cell? ⟨w.heap.size + 1, 2, none⟩ = some (.string ⟨#[]⟩)) ∧ (W.frozen? ⟨w.heap.size + 1, 0, none⟩ = false ∧ W.frozen? ⟨w.heap.size + 1, 1, none⟩ = false ∧ W.frozen? ⟨w.heap.size + 1, 2, none⟩ = false)) ∧ Below w.heap.size w W) := fun W hW => by
    have l0 : w.heap.size < w2.heap.size := by omega
    have l1 : w.heap.size + 1 < w2.heap.size := by omega
    exact ⟨⟨⟨(hW.cell (p := ⟨w.heap.size, 0, none⟩) l0).trans x0, (hW.cell (p := ⟨w.heap.size, 3, none⟩) l0).trans x3, (hW.cell (p := ⟨w.heap.size, 4, none⟩) l0).trans x4, (hW.cell (p := ⟨w.heap.size, 5, none⟩) l0).trans x5, (hW.cell (p := ⟨w.heap.size, 6, none⟩) l0).trans x6⟩,
      ⟨(hW.cell (p := ⟨w.heap.size + 1, 0, none⟩) l1).trans y0, (hW.cell (p := ⟨w.heap.size + 1, 1, none⟩) l1).trans y1, (hW.cell (p := ⟨w.heap.size + 1, 2, none⟩) l1).trans y2⟩, (hW.frozen (p := ⟨w.heap.size + 1, 0, none⟩) l1).trans z0, (hW.frozen (p := ⟨w.heap.size + 1, 1, none⟩) l1).trans z1, (hW.frozen (p := ⟨w.heap.size + 1, 2, none⟩) l1).trans z2⟩, hbel.trans (hW.mono hbel.size)⟩
  have HSet : Hid (∀ W v0 v1 v2, Below w.heap.size w W → Below w.heap.size w (((W.setCell ⟨w.heap.size + 1, 0, none⟩ v0).setCell ⟨w.heap.size + 1, 1, none⟩ v1).setCell ⟨w.heap.size + 1, 2, none⟩ v2)) := fun W v0 v1 v2 h =>
    ((h.setCell (by show w.heap.size ≤ w.heap.size + 1; omega) _).setCell (by show w.heap.size ≤ w.heap.size + 1; omega) _).setCell (by show w.heap.size ≤ w.heap.size + 1; omega) _
  have HTk : Hid (Calls Tryz.prog 221 #[.slice vp1 vp2 vp3, .func (.func 155) #[] #[.pointer (some ⟨mB, 0, none⟩), .pointer (some ⟨lB, 0, none⟩), .pointer (some ⟨fB, 0, none⟩)]] w2 (Takes w2 ρ f.params)) :=
    takes_any S ρ f.params _ mB lB fB w2 (fun b hb => Nat.lt_of_lt_of_le (hS b hb) hbel.size) (fdSl_keep (Keeps.below hbel hS) hps) h8 hty hρ (fun W t u hW => HF W t u (hbel.trans (hW.mono hbel.size)))
  have HSol : Hid (∀ W, Below w.heap.size w W → Calls Tryz.prog 155 #[.agg #[.int .i64 kd, .string fo, .string na, .slice p1 p2 p3], .pointer (some ⟨mB, 0, none⟩), .pointer (some ⟨lB, 0, none⟩), .pointer (some ⟨fB, 0, none⟩)] W (Tells W (ρ f.result))) := fun W hW =>
    HF W _ _ hW htr ⟨_, _, _, _, rfl, hcs.keep (Keeps.below hW hS)⟩
  have HWe := veil hwe
  have HCode : Hid (sigCode ρ f = if parErr ρ f.params ≠ 0 then parErr ρ f.params else (ρ f.result).2) := rfl
  have HGood : Hid (sigCode ρ f = 0 → sigOf ρ f = ⟨f.name, kindsOf ρ f.params, (ρ f.result).1⟩) := fun h => if_pos h
  have HBad : Hid (sigCode ρ f ≠ 0 → sigOf ρ f = ⟨noneS, [], noneS⟩) := fun h => if_neg h
  have HRs := veil (hρ f.result)
  have HNm := veil (clone_kind f.name)
  have hnm' : f.name.size ≤ maxLen := by unfold maxLen; omega
  have hnm2 : f.name.size ≤ 281474976710656 := by omega
  clear hwe hbel hps hcs hty htr hρ HF x0 x3 x4 x5 x6 y0 y1 y2 z0 z1 z2 hS
  unfold Takes at HTk
  generalize sigOf ρ f = g at *
  generalize sigCode ρ f = sc at *
  generalize kindsOf ρ f.params = ks at *
  generalize parErr ρ f.params = pe at *
  generalize ρ f.result = r at *
  generalize f.name = nm at *
  generalize f.var = vr at *
  obtain ⟨rs, rc⟩ := r
  go_enter Tryz.func154, Tryz.ntmps154
  go_wp2_with fail
  rw [HWe.out]
  refine HTk.out.mono ?_
  rintro e w3 ⟨xa, xn, xc, rfl, hks, hb3⟩
  obtain ⟨⟨⟨a0, a3, a4, a5, a6⟩, ⟨b0, b1, b2⟩, c0, c1, c2⟩, hbw3⟩ := HBox.out _ hb3
  have HB3 := veil hb3
  have HBw3 := veil hbw3
  have HKs := veil hks
  clear hb3 hbw3 hks HTk
  by_cases hp : pe = 0
  · subst hp
    go_wp2_with fail
    refine (HSol.out _ HBw3.out).mono ?_
    rintro e w4 ⟨rfl, hb4⟩
    have hb34 := hb4
    obtain ⟨⟨⟨d0, _⟩, ⟨e0, e1, e2⟩, f0, f1, f2⟩, hbw4⟩ := HBox.out _ (HB3.out.trans (hb4.mono HB3.out.size))
    have HB4 := veil (HB3.out.trans (hb4.mono HB3.out.size))
    have HBw4 := veil hbw4
    have HB34 := veil hb4
    clear hb4 hbw4 a0 a3 a4 a5 a6 b0 b1 b2 c0 c1 c2 hb34
    by_cases hc : rc = 0
    · subst hc
      have hsc : sc = 0 := by rw [HCode.out, if_neg (by simp)]
      subst hsc
      have HG := veil (HGood.out rfl)
      clear HGood HBad HCode
      go_wp2_with fail
      refine (HNm.out _ hnm2).mono ?_
      rintro e w5 ⟨rfl, hb5⟩
      obtain ⟨⟨_, ⟨g0, g1, g2⟩, h0, h1, h2⟩, hbw5⟩ := HBox.out _ (HB4.out.trans (hb5.mono HB4.out.size))
      have HFin : Hid (∀ W', (∀ b, w2.heap.size ≤ b → b < w5.heap.size → W'.heap[b]? = w5.heap[b]?) → w5.heap.size ≤ W'.heap.size → SgIs (fun b => w.heap.size ≤ b ∧ b < W'.heap.size) W' ⟨nm, ks, rs⟩ (.agg #[.string nm, .slice xa xn xc, .string rs])) := fun W' hk hsz =>
        ⟨_, rfl, hnm', HRs.out, strSl_keep (S := fun b => w2.heap.size ≤ b ∧ b < w3.heap.size) (S' := fun b => w.heap.size ≤ b ∧ b < W'.heap.size) ⟨fun b hb => by
          have hb35 := HB34.out.trans (hb5.mono HB34.out.size)
          rw [hk b hb.1 (Nat.lt_of_lt_of_le hb.2 hb35.size)]
          exact hb35.block b hb.2, fun b hb => by
          have hb35 := HB34.out.trans (hb5.mono HB34.out.size)
          have := hb35.size
          omega⟩ (HKs.out trivial)⟩
      have HBw5 := veil hbw5
      have hs5 : w.heap.size + 2 ≤ w5.heap.size := by have := (HB4.out.trans (hb5.mono HB4.out.size)).size; omega
      clear hb5 hbw5 e0 e1 e2 f0 f1 f2 d0
      go_wp2_with fail
      refine bodyPost_ret (v := .tuple #[.agg #[.string nm, .slice xa xn xc, .string rs], .int .i64 0]) (by simp [results, Tryz.results154, go_sem, g0, g1, g2]) rfl ?_
      refine ⟨xa, xn, xc, by rw [HG.out], ?_, HSet.out _ _ _ _ HBw5.out⟩
      rw [HG.out]
      exact HFin.out _ (fun b hb _ => by
        rw [Below.heap_setCell _ _ _ _ (by show b ≠ w.heap.size + 1; omega), Below.heap_setCell _ _ _ _ (by show b ≠ w.heap.size + 1; omega), Below.heap_setCell _ _ _ _ (by show b ≠ w.heap.size + 1; omega)]) (by simp)
    · have hc' : (rc != 0) = true := by simp [hc]
      have hsc : sc = rc := by rw [HCode.out, if_neg (by simp)]
      subst hsc
      have HG := veil (HBad.out hc)
      clear HGood HBad HCode hc HNm
      go_wp2_with fail
      refine bodyPost_ret (v := .tuple #[.agg #[.string ⟨#[]⟩, .slice none 0 0, .string ⟨#[]⟩], .int .i64 sc]) (by simp [results, Tryz.results154, go_sem, e0, e1, e2]) rfl ?_
      refine ⟨none, 0, 0, by rw [HG.out]; rfl, ?_, HSet.out _ _ _ _ HBw4.out⟩
      rw [HG.out]
      exact sgNil _ _
  · have hp' : (pe != 0) = true := by simp [hp]
    have hsc : sc = pe := by rw [HCode.out, if_pos hp]
    subst hsc
    have HG := veil (HBad.out hp)
    clear HGood HBad HCode hp HNm HSol HKs
    go_wp2_with fail
    refine bodyPost_ret (v := .tuple #[.agg #[.string ⟨#[]⟩, .slice none 0 0, .string ⟨#[]⟩], .int .i64 sc]) (by simp [results, Tryz.results154, go_sem, b0, b1, b2]) rfl ?_
    refine ⟨none, 0, 0, by rw [HG.out]; rfl, ?_, HSet.out _ _ _ _ HBw3.out⟩
    rw [HG.out]
    exact sgNil _ _

end Go.Proofs.YtagbaimfigljiaaGreatDoor
namespace Go.Proofs.YtagbaimfigljiaaGreatDoor
open Go.RowKit
set_option maxRecDepth 100000

def fnName (m : Mo) (k : Nat) : ByteArray := ((m.funcs[k]?).map Fu.name).getD noneS
def oneCode (m : Mo) (l : List Im) (k : Nat) : Int := match m.funcs[k]? with
  | some f => if hasFu (m.funcs.take k) f.name = true then 4 else sigCode (rhoR m l f.var) f
  | none => 6
def oneSg (m : Mo) (l : List Im) (k : Nat) : Sg := match m.funcs[k]? with
  | some f => if hasFu (m.funcs.take k) f.name = true then ⟨noneS, [], noneS⟩ else sigOf (rhoR m l f.var) f
  | none => ⟨noneS, [], noneS⟩
theorem fnName_at {m : Mo} {k : Nat} (h : k < m.funcs.length) : fnName m k = m.funcs[k].name := by
  unfold fnName
  rw [List.getElem?_eq_getElem h]; rfl
theorem oneCode_at {m : Mo} {l : List Im} {k : Nat} (h : k < m.funcs.length) : oneCode m l k = (if hasFu (m.funcs.take k) m.funcs[k].name = true then 4 else sigCode (rhoR m l m.funcs[k].var) m.funcs[k]) ∧ oneSg m l k = (if hasFu (m.funcs.take k) m.funcs[k].name = true then ⟨noneS, [], noneS⟩ else sigOf (rhoR m l m.funcs[k].var) m.funcs[k]) := by
  unfold oneCode oneSg
  rw [List.getElem?_eq_getElem h]
  exact ⟨rfl, rfl⟩

/-- a function that may be. -/
def FuMay (f : Fu) : Prop := identOk f.name = true ∧ f.params.length ≤ 8 ∧ (∀ p ∈ f.params, identOk p.name = true ∧ tyFault p.is 1 = 0) ∧ tyFault f.result 1 = 0
theorem fuMay_of {f : Fu} (h : fuFault f = 0) : FuMay f := by
  unfold fuFault at h
  by_cases h1 : identOk f.name = false ∨ noneOrIdent f.var = false
  · rw [if_pos h1] at h; exact absurd h (by decide)
  · rw [if_neg h1] at h
    by_cases h2 : 8 < f.params.length
    · rw [if_pos h2] at h; exact absurd h (by decide)
    · rw [if_neg h2] at h
      by_cases h3 : firstBad fdFault f.params ≠ 0
      · rw [if_pos h3] at h; exact absurd h h3
      · rw [if_neg h3] at h
        by_cases h4 : tyFault f.result 1 ≠ 0
        · rw [if_pos h4] at h; exact absurd h h4
        · refine ⟨?_, by omega, fun p hp => ?_, by simpa using h4⟩
          · cases hi : identOk f.name with
            | true => rfl
            | false => exact absurd (Or.inl hi) h1
          · obtain ⟨k, hk, rfl⟩ := List.getElem_of_mem hp
            have := firstBad_all fdFault f.params (by simpa using h3) k hk
            unfold fdFault at this
            by_cases hi : identOk (f.params[k]).name = true
            · rw [if_pos hi] at this; exact ⟨hi, this⟩
            · rw [if_neg hi] at this; exact absurd this (by decide)
theorem mo_funcs {m : Mo} (h : moFault m = 0) : ∀ f ∈ m.funcs, FuMay f := by
  unfold moFault at h
  by_cases hc : 24 < wrap64 (wrap64 ((m.uses.length : Int) + m.types.length) + m.funcs.length)
  · rw [if_pos hc] at h; exact absurd h (by decide)
  · rw [if_neg hc] at h
    by_cases hu : firstBad useFault m.uses ≠ 0
    · rw [if_pos hu] at h; exact absurd h hu
    · rw [if_neg hu] at h
      by_cases ht : firstBad fdFault m.types ≠ 0
      · rw [if_pos ht] at h; exact absurd h ht
      · rw [if_neg ht] at h
        intro f hf
        obtain ⟨k, hk, rfl⟩ := List.getElem_of_mem hf
        exact fuMay_of (firstBad_all fuFault m.funcs h k hk)

set_option maxRecDepth 100000 in
set_option maxHeartbeats 8000000 in
theorem one_any (S : Nat → Prop) (m : Mo) (l : List Im) (k : Nat) (vm vl : Value) (w : World) (hS : ∀ b, S b → b < w.heap.size) (hm : MoIs S w m vm) (hl : SlAt S (ImAt S w) 4 l vl) (hz : ∀ i ∈ l, fcSmall i.face) (hty : ∀ f ∈ m.types, tyFault f.is 1 = 0) (hn : m.types.length ≤ reachBytes) (hfu : ∀ f ∈ m.funcs, FuMay f) (hk : k < m.funcs.length) :
    Calls Tryz.prog 81 #[vm, vl, .int .i64 (k : Nat)] w (Signs w (oneSg m l k) (oneCode m l k)) := by
  obtain ⟨hoc, hos⟩ := oneCode_at (l := l) hk
  obtain ⟨vu, vty, vf, rfl, hu, hts, hf⟩ := id hm
  have hlen := hf.len
  unfold maxLen at hlen
  obtain ⟨u1, u2, u3, rfl⟩ := hu.slice
  obtain ⟨t1, t2, t3, rfl⟩ := hts.slice
  obtain ⟨f1, f3, rfl⟩ := hf.is
  obtain ⟨la, ln, lc, rfl⟩ := hl.slice
  obtain ⟨hident, h8, hps8, htr⟩ := hfu _ (List.getElem_mem hk)
  obtain ⟨cu, cc, hrun, hcut⟩ := cut_fu hf (k := k) (by omega)
  obtain ⟨_, b, off, rfl, hb, hat⟩ := hf.at hk
  obtain ⟨vp1, vp2, vp3, kd, fo, na, p1, p2, p3, ke, ne, fe, se, ve1, ve2, ve3, a0, a1, a2, a3, a4, a5, a6, a7, a8, a9, a10, a11, hsz0, hsz1, hps, hcs, hce⟩ := fu_cells hat
  have hbw := hS b hb
  have HDec : Hid (∀ W, Below w.heap.size w W → Calls Tryz.prog 153 #[.slice cu k cc, .string m.funcs[k].name] W fun e w' => e = .returned (.bool (hasFu (m.funcs.take k) m.funcs[k].name)) ∧ Below W.heap.size W w') := fun W hW =>
    declared_any S (m.funcs.take k) _ _ W (fun b hb => Nat.lt_of_lt_of_le (hS b hb) hW.size) (fuSl_keep (Keeps.below hW hS) hcut)
  obtain ⟨w0, hwe0, hs0, hbel0, m0, m1, m2, m3, y0, y1, y2, z0, z1, z2⟩ : ∃ w0, ((w.alloc (.cells #[.slice u1 u2 u3, .slice t1 t2 t3, .slice (some ⟨b, off, none⟩) m.funcs.length f3] 44)).alloc (.cells #[.slice la ln lc] 26)).alloc (.cells #[.string ⟨#[]⟩, .slice none 0 0, .string ⟨#[]⟩] 65) = w0 ∧ w0.heap.size = w.heap.size + 3 ∧ Below w.heap.size w w0 ∧
      w0.cell? ⟨w.heap.size, 0, none⟩ = some (.slice u1 u2 u3) ∧ w0.cell? ⟨w.heap.size, 1, none⟩ = some (.slice t1 t2 t3) ∧ w0.cell? ⟨w.heap.size, 2, none⟩ = some (.slice (some ⟨b, off, none⟩) m.funcs.length f3) ∧ w0.cell? ⟨w.heap.size + 1, 0, none⟩ = some (.slice la ln lc) ∧
      w0.cell? ⟨w.heap.size + 2, 0, none⟩ = some (.string ⟨#[]⟩) ∧ w0.cell? ⟨w.heap.size + 2, 1, none⟩ = some (.slice none 0 0) ∧ w0.cell? ⟨w.heap.size + 2, 2, none⟩ = some (.string ⟨#[]⟩) ∧ w0.frozen? ⟨w.heap.size + 2, 0, none⟩ = false ∧ w0.frozen? ⟨w.heap.size + 2, 1, none⟩ = false ∧ w0.frozen? ⟨w.heap.size + 2, 2, none⟩ = false :=
    ⟨_, rfl, by simp, (((Below.refl _ _).alloc (Nat.le_refl _) _).alloc (by simp) _).alloc (by simp; omega) _, by simp [go_sem], by simp [go_sem], by simp [go_sem], by simp [go_sem], by simp [go_sem], by simp [go_sem], by simp [go_sem], by simp [go_sem], by simp [go_sem], by simp [go_sem]⟩
  obtain ⟨w2, hwe, hs2, hbel2, c0, c1, c2, c3, c4, c5, c6, c7, c8, c9, c10, c11⟩ : ∃ w2, w0.alloc (.cells #[.string m.funcs[k].name, .string m.funcs[k].var, .slice vp1 vp2 vp3, .int .i64 kd, .string fo, .string na, .slice p1 p2 p3, .int .i64 ke, .int .i64 ne, .string fe, .string se, .slice ve1 ve2 ve3] 89) = w2 ∧ w2.heap.size = w.heap.size + 4 ∧ Below w0.heap.size w0 w2 ∧
      w2.cell? ⟨w.heap.size + 3, 0, none⟩ = some (.string m.funcs[k].name) ∧ w2.cell? ⟨w.heap.size + 3, 1, none⟩ = some (.string m.funcs[k].var) ∧ w2.cell? ⟨w.heap.size + 3, 2, none⟩ = some (.slice vp1 vp2 vp3) ∧ w2.cell? ⟨w.heap.size + 3, 3, none⟩ = some (.int .i64 kd) ∧ w2.cell? ⟨w.heap.size + 3, 4, none⟩ = some (.string fo) ∧ w2.cell? ⟨w.heap.size + 3, 5, none⟩ = some (.string na) ∧ w2.cell? ⟨w.heap.size + 3, 6, none⟩ = some (.slice p1 p2 p3) ∧
      w2.cell? ⟨w.heap.size + 3, 7, none⟩ = some (.int .i64 ke) ∧ w2.cell? ⟨w.heap.size + 3, 8, none⟩ = some (.int .i64 ne) ∧ w2.cell? ⟨w.heap.size + 3, 9, none⟩ = some (.string fe) ∧ w2.cell? ⟨w.heap.size + 3, 10, none⟩ = some (.string se) ∧ w2.cell? ⟨w.heap.size + 3, 11, none⟩ = some (.slice ve1 ve2 ve3) := by
    rw [← hs0]
    exact ⟨_, rfl, by simp; omega, (Below.refl _ _).alloc (Nat.le_refl _) _, by simp [go_sem], by simp [go_sem], by simp [go_sem], by simp [go_sem], by simp [go_sem], by simp [go_sem], by simp [go_sem], by simp [go_sem], by simp [go_sem], by simp [go_sem], by simp [go_sem], by simp [go_sem]⟩
  have HBox : Hid (∀ W, Below w2.heap.size w2 W → ((W.cell? ⟨w.heap.size, 0, none⟩ = some (.slice u1 u2 u3) ∧ W.cell? ⟨w.heap.size, 1, none⟩ = some (.slice t1 t2 t3) ∧ W.cell? ⟨w.heap.size, 2, none⟩ = some (.slice (some ⟨b, off, none⟩) m.funcs.length f3) ∧ W.cell? ⟨w.heap.size + 1, 0, none⟩ = some (.slice la ln lc)) ∧
      (W.cell? ⟨w.heap.size + 2, 0, none⟩ = some (.string ⟨#[]⟩) ∧ W.cell? ⟨w.heap.size + 2, 1, none⟩ = some (.slice none 0 0) ∧ W.cell? ⟨w.heap.size + 2, 2, none⟩ = some (.string ⟨#[]⟩)) ∧ (W.frozen? ⟨w.heap.size + 2, 0, none⟩ = false ∧ W.frozen? ⟨w.heap.size + 2, 1, none⟩ = false ∧ W.frozen? ⟨w.heap.size + 2, 2, none⟩ = false)) ∧ Below w.heap.size w W ∧
      (W.cell? ⟨w.heap.size + 3, 0, none⟩ = some (.string m.funcs[k].name) ∧ W.cell? ⟨w.heap.size + 3, 1, none⟩ = some (.string m.funcs[k].var) ∧ W.cell? ⟨w.heap.size + 3, 2, none⟩ = some (.slice vp1 vp2 vp3) ∧ W.cell? ⟨w.heap.size + 3, 3, none⟩ = some (.int .i64 kd) ∧ W.cell? ⟨w.heap.size + 3, 4, none⟩ = some (.string fo) ∧ W.cell? ⟨w.heap.size + 3, 5, none⟩ = some (.string na) ∧ W.cell? ⟨w.heap.size + 3, 6, none⟩ = some (.slice p1 p2 p3) ∧
      W.cell? ⟨w.heap.size + 3, 7, none⟩ = some (.int .i64 ke) ∧ W.cell? ⟨w.heap.size + 3, 8, none⟩ = some (.int .i64 ne) ∧ W.cell? ⟨w.heap.size + 3, 9, none⟩ = some (.string fe) ∧ W.cell? ⟨w.heap.size + 3, 10, none⟩ = some (.string se) ∧ W.cell? ⟨w.heap.size + 3, 11, none⟩ = some (.slice ve1 ve2 ve3))) := fun W hW => by
    have hW0 := hbel2.trans (hW.mono hbel2.size)
    have l0 : w.heap.size < w0.heap.size := by omega
    have l1 : w.heap.size + 1 < w0.heap.size := by omega
    have l2 : w.heap.size + 2 < w0.heap.size := by omega
    have l3 : w.heap.size + 3 < w2.heap.size := by omega
    exact ⟨⟨⟨(hW0.cell (p := ⟨w.heap.size, 0, none⟩) l0).trans m0, (hW0.cell (p := ⟨w.heap.size, 1, none⟩) l0).trans m1, (hW0.cell (p := ⟨w.heap.size, 2, none⟩) l0).trans m2, (hW0.cell (p := ⟨w.heap.size + 1, 0, none⟩) l1).trans m3⟩,
      ⟨(hW0.cell (p := ⟨w.heap.size + 2, 0, none⟩) l2).trans y0, (hW0.cell (p := ⟨w.heap.size + 2, 1, none⟩) l2).trans y1, (hW0.cell (p := ⟨w.heap.size + 2, 2, none⟩) l2).trans y2⟩, (hW0.frozen (p := ⟨w.heap.size + 2, 0, none⟩) l2).trans z0, (hW0.frozen (p := ⟨w.heap.size + 2, 1, none⟩) l2).trans z1, (hW0.frozen (p := ⟨w.heap.size + 2, 2, none⟩) l2).trans z2⟩, hbel0.trans (hW0.mono hbel0.size),
      (hW.cell (p := ⟨w.heap.size + 3, 0, none⟩) l3).trans c0, (hW.cell (p := ⟨w.heap.size + 3, 1, none⟩) l3).trans c1, (hW.cell (p := ⟨w.heap.size + 3, 2, none⟩) l3).trans c2, (hW.cell (p := ⟨w.heap.size + 3, 3, none⟩) l3).trans c3, (hW.cell (p := ⟨w.heap.size + 3, 4, none⟩) l3).trans c4, (hW.cell (p := ⟨w.heap.size + 3, 5, none⟩) l3).trans c5, (hW.cell (p := ⟨w.heap.size + 3, 6, none⟩) l3).trans c6, (hW.cell (p := ⟨w.heap.size + 3, 7, none⟩) l3).trans c7, (hW.cell (p := ⟨w.heap.size + 3, 8, none⟩) l3).trans c8, (hW.cell (p := ⟨w.heap.size + 3, 9, none⟩) l3).trans c9, (hW.cell (p := ⟨w.heap.size + 3, 10, none⟩) l3).trans c10, (hW.cell (p := ⟨w.heap.size + 3, 11, none⟩) l3).trans c11⟩
  have HSet : Hid (∀ W v0 v1 v2, Below w.heap.size w W → Below w.heap.size w (((W.setCell ⟨w.heap.size + 2, 0, none⟩ v0).setCell ⟨w.heap.size + 2, 1, none⟩ v1).setCell ⟨w.heap.size + 2, 2, none⟩ v2)) := fun W v0 v1 v2 h =>
    ((h.setCell (by show w.heap.size ≤ w.heap.size + 2; omega) _).setCell (by show w.heap.size ≤ w.heap.size + 2; omega) _).setCell (by show w.heap.size ≤ w.heap.size + 2; omega) _
  have HSig : Hid (∀ W, Below w2.heap.size w2 W → Calls Tryz.prog 154 #[.agg #[.string m.funcs[k].name, .string m.funcs[k].var, .slice vp1 vp2 vp3, .int .i64 kd, .string fo, .string na, .slice p1 p2 p3, .int .i64 ke, .int .i64 ne, .string fe, .string se, .slice ve1 ve2 ve3], .func (.func 155) #[] #[.pointer (some ⟨w.heap.size, 0, none⟩), .pointer (some ⟨w.heap.size + 1, 0, none⟩), .pointer (some ⟨w.heap.size + 3, 0, none⟩)]] W (Signs W (sigOf (rhoR m l m.funcs[k].var) m.funcs[k]) (sigCode (rhoR m l m.funcs[k].var) m.funcs[k]))) := fun W hW => by
    obtain ⟨_, hWw, _⟩ := HBox.out W hW
    have hSW : ∀ b, S b → b < W.heap.size := fun b hb => Nat.lt_of_lt_of_le (hS b hb) hWw.size
    refine sig_any S (rhoR m l m.funcs[k].var) m.funcs[k] vp1 p1 ve1 vp2 vp3 p2 p3 ve2 ve3 kd ke ne fo na fe se w.heap.size (w.heap.size + 1) (w.heap.size + 3) W hSW (fdSl_keep (Keeps.below hWw hS) hps) (hcs.keep (Keeps.below hWw hS)) h8 (fun p hp => (hps8 p hp).2) htr (ident_eight hident) (fun t => rhoR_size hz _ t) (fun W' t u hW' ht hu' => ?_)
    have h2 := hW.trans (hW'.mono hW.size)
    obtain ⟨⟨⟨q0, q1, q2, q3⟩, _, _⟩, hWw', ⟨_, q4, _⟩⟩ := HBox.out W' h2
    exact oneCl_any S m l m.funcs[k].var t u1 t1 (some ⟨b, off, none⟩) la u2 u3 t2 t3 m.funcs.length f3 ln lc u w.heap.size (w.heap.size + 1) (w.heap.size + 3) W' (fun b hb => Nat.lt_of_lt_of_le (hSW b hb) hW'.size) (hm.keep (Keeps.below hWw' hS)) (imSl_keep (Keeps.below hWw' hS) hl) hz hty hn ht hu' q0 q1 q2 q3 q4
  have HW0 := veil hwe0
  have HW2 := veil hwe
  have HB2 := veil hbel2
  have HB0 := veil hbel0
  have d0 := (hbel0.cell (p := ⟨b, off + k * 12, none⟩) hbw).trans a0
  have d1 := (hbel0.cell (p := ⟨b, off + k * 12 + 1, none⟩) hbw).trans a1
  have d2 := (hbel0.cell (p := ⟨b, off + k * 12 + 2, none⟩) hbw).trans a2
  have d3 := (hbel0.cell (p := ⟨b, off + k * 12 + 3, none⟩) hbw).trans a3
  have d4 := (hbel0.cell (p := ⟨b, off + k * 12 + 4, none⟩) hbw).trans a4
  have d5 := (hbel0.cell (p := ⟨b, off + k * 12 + 5, none⟩) hbw).trans a5
  have d6 := (hbel0.cell (p := ⟨b, off + k * 12 + 6, none⟩) hbw).trans a6
  have d7 := (hbel0.cell (p := ⟨b, off + k * 12 + 7, none⟩) hbw).trans a7
  have d8 := (hbel0.cell (p := ⟨b, off + k * 12 + 8, none⟩) hbw).trans a8
  have d9 := (hbel0.cell (p := ⟨b, off + k * 12 + 9, none⟩) hbw).trans a9
  have d10 := (hbel0.cell (p := ⟨b, off + k * 12 + 10, none⟩) hbw).trans a10
  have d11 := (hbel0.cell (p := ⟨b, off + k * 12 + 11, none⟩) hbw).trans a11
  have HOc := veil hoc
  have HOs := veil hos
  clear hm hl hz hty hn hfu hu hts hf hcut hat hsz0 hsz1 hps hcs hce hwe0 hwe hbel0 hbel2 a0 a1 a2 a3 a4 a5 a6 a7 a8 a9 a10 a11 c0 c1 c2 c3 c4 c5 c6 c7 c8 c9 c10 c11 y0 y1 y2 z0 z1 z2 hoc hos hident h8 hps8 htr
  unfold Signs at HSig
  generalize oneSg m l k = og at *
  generalize oneCode m l k = oc at *
  generalize sigOf (rhoR m l m.funcs[k].var) m.funcs[k] = sg at *
  generalize sigCode (rhoR m l m.funcs[k].var) m.funcs[k] = sc at *
  generalize m.funcs[k].name = nm at *
  generalize m.funcs[k].var = vr at *
  generalize hasFu (m.funcs.take k) nm = tk at *
  have hk1 : ¬ (k : Int) < 0 := by omega
  have hk2 : ¬ (m.funcs.length : Int) ≤ (k : Int) := by omega
  have hk3 : (k : Int) < (m.funcs.length : Int) := by omega
  have hk4 : (0 : Int) ≤ (k : Int) := by omega
  go_enter Tryz.func81, Tryz.ntmps81
  go_wp2_with (rw [HW0.out]; clear HW0)
  rw [HW2.out]
  clear HW2
  obtain ⟨⟨⟨q0, q1, q2, q3⟩, _, _⟩, hb2w, ⟨r0, r1, r2, r3, r4, r5, r6, r7, r8, r9, r10, r11⟩⟩ := HBox.out w2 (Below.refl _ _)
  have HB2w := veil hb2w
  have HBd := veil hb2w.drew
  clear hb2w d0 d1 d2 d3 d4 d5 d6 d7 d8 d9 d10 d11 m0 m1 m2 m3
  go_region_with (go_at_call 153; refine (HDec.out _ HBd.out).mono ?_; rintro e w3 ⟨rfl, hb3⟩)
  all_goals
    have hb23 : Below w2.heap.size w2 w3 := (Below.refl _ _).drew.trans (hb3.mono (Nat.le_refl _))
    obtain ⟨⟨⟨c0, c1, c2, c3⟩, ⟨g0, g1, g2⟩, h0, h1, h2⟩, hbw3, ⟨e0, e1, e2, e3, e4, e5, e6, e7, e8, e9, e10, e11⟩⟩ := HBox.out w3 hb23
    have HB23 := veil hb23
    have HBw3 := veil hbw3
    clear hb3 hb23 hbw3 q0 q1 q2 q3 r0 r1 r2 r3 r4 r5 r6 r7 r8 r9 r10 r11 hrun
    cases tk with
    | true =>
      have HC : Hid (oc = 4) := by show _ = _; rw [HOc.out, if_pos rfl]
      have HG : Hid (og = ⟨noneS, [], noneS⟩) := by show _ = _; rw [HOs.out, if_pos rfl]
      clear HOc HOs HSig
      go_wp2_with fail
      refine bodyPost_ret (v := .tuple #[.agg #[.string ⟨#[]⟩, .slice none 0 0, .string ⟨#[]⟩], .int .i64 4]) (by simp [results, Tryz.results81, go_sem, g0, g1, g2]) rfl ?_
      refine ⟨none, 0, 0, by rw [HC.out, HG.out]; rfl, ?_, HSet.out _ _ _ _ HBw3.out⟩
      rw [HG.out]
      exact sgNil _ _
    | false =>
      have HC : Hid (oc = sc) := by show _ = _; rw [HOc.out, if_neg (by decide)]
      have HG : Hid (og = sg) := by show _ = _; rw [HOs.out, if_neg (by decide)]
      clear HOc HOs
      go_wp2_with fail
      refine (HSig.out w3 HB23.out).mono ?_
      rintro e w5 ⟨xa, xn, xc, rfl, hsg, hb5⟩
      have hb25 := HB23.out.trans (hb5.mono HB23.out.size)
      obtain ⟨⟨_, ⟨k0, k1, k2⟩, l0, l1, l2⟩, hbw5, _⟩ := HBox.out w5 hb25
      have HFin : Hid (∀ W', (∀ b, w2.heap.size ≤ b → b < w5.heap.size → W'.heap[b]? = w5.heap[b]?) → w5.heap.size ≤ W'.heap.size → SgIs (fun b => w.heap.size ≤ b ∧ b < W'.heap.size) W' sg (.agg #[.string sg.name, .slice xa xn xc, .string sg.result])) := fun W' hk' hsz =>
        hsg.keep ⟨fun b hb => hk' b (Nat.le_trans HB23.out.size hb.1) hb.2, fun b hb => by have := HB23.out.size; omega⟩
      have HBw5 := veil hbw5
      clear hsg hb5 hb25 hbw5 c0 c1 c2 c3 g0 g1 g2 h0 h1 h2 e0 e1 e2 e3 e4 e5 e6 e7 e8 e9 e10 e11 HSig
      generalize hsn : sg.name = sn at *
      generalize hsr : sg.result = sr at *
      have HSn := veil hsn
      have HSr := veil hsr
      clear hsn hsr
      go_wp2_with fail
      refine bodyPost_ret (v := .tuple #[.agg #[.string sn, .slice xa xn xc, .string sr], .int .i64 sc]) (by simp [results, Tryz.results81, go_sem, k0, k1, k2]) rfl ?_
      refine ⟨xa, xn, xc, by rw [HC.out, HG.out, HSn.out, HSr.out], ?_, HSet.out _ _ _ _ HBw5.out⟩
      rw [HG.out, HSn.out, HSr.out]
      exact HFin.out _ (fun b hb _ => by
        rw [Below.heap_setCell _ _ _ _ (by show b ≠ w.heap.size + 2; omega), Below.heap_setCell _ _ _ _ (by show b ≠ w.heap.size + 2; omega), Below.heap_setCell _ _ _ _ (by show b ≠ w.heap.size + 2; omega)]) (by simp)

end Go.Proofs.YtagbaimfigljiaaGreatDoor
namespace Go.Proofs.YtagbaimfigljiaaGreatDoor
open Go.RowKit
set_option maxRecDepth 100000

theorem find_le {α : Type} {p : α → Bool} : ∀ {l : List α} {k : Nat} (h : k < l.length), p l[k] = true → findAt p l ≤ k
  | x :: r, 0, _, h => by
    rw [findAt, if_pos (by simpa using h)]; exact Nat.le_refl _
  | x :: r, k + 1, hk, h => by
    rw [findAt]
    split
    · exact Nat.zero_le _
    · have := find_le (l := r) (k := k) (by simpa using hk) (by simpa using h)
      omega

end Go.Proofs.YtagbaimfigljiaaGreatDoor
