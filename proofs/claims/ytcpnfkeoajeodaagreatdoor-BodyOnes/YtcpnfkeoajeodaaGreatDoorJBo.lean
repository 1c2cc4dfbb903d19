/- What the code's names answer: what a param is, what some expressions are, what a call is, what an expression is. -/
import Derived.Test.YtcpnfkeoajeodaaGreatDoorJBk
import Derived.Test.YtcpnfkeoajeodaaGreatDoorJBq
import Derived.Test.YtcpnfkeoajeodaaGreatDoorJAl
import Derived.Deep.RegionHeld3
namespace Go.Proofs.YtcpnfkeoajeodaaGreatDoor
open Go.RowKit
set_option maxRecDepth 100000

theorem parIs_is (ps : List Kn) (s : ByteArray) : (parIs ps s).2 = 0 ∨ parIs ps s = badEx 6 := by
  by_cases h : parAt ps s < ps.length
  · rw [parIs_at h]; exact Or.inl rfl
  · rw [parIs_none h]; exact Or.inr rfl

set_option maxHeartbeats 1000000 in
theorem paramOf_any (ps : List Kn) (lB kB oB mB iB : Nat) (w W : World) (s : ByteArray) (hW : Below w.heap.size w W)
    (HPar : ∀ W s, Below w.heap.size w W → Calls Tryz.prog 27 #[.string s, .pointer (some ⟨lB, 0, none⟩), .pointer (some ⟨kB, 0, none⟩)] W fun e w' => e = .returned (.tuple #[.string (parIs ps s).1, .bool ((parIs ps s).2 == 0)]) ∧ Below W.heap.size W w') :
    Calls Tryz.prog 33 #[.agg #[.func (.func 27) #[] #[.pointer (some ⟨lB, 0, none⟩), .pointer (some ⟨kB, 0, none⟩)], .func (.func 30) #[] #[.pointer (some ⟨oB, 0, none⟩), .pointer (some ⟨mB, 0, none⟩), .pointer (some ⟨iB, 0, none⟩)]], .string s] W fun e w' => e = .returned (.tuple #[.string (parIs ps s).1, .int .i64 (parIs ps s).2]) ∧ Below W.heap.size W w' := by
  have hb : Below W.heap.size W (W.alloc (.cells #[.func (.func 27) #[] #[.pointer (some ⟨lB, 0, none⟩), .pointer (some ⟨kB, 0, none⟩)], .func (.func 30) #[] #[.pointer (some ⟨oB, 0, none⟩), .pointer (some ⟨mB, 0, none⟩), .pointer (some ⟨iB, 0, none⟩)]] 60)) := (Below.refl _ _).alloc (Nat.le_refl _) _
  have HP := veil (HPar _ s (hW.trans (hb.mono hW.size)))
  have HB := veil hb
  have HI := veil (parIs_is ps s)
  clear HPar hb hW
  generalize parIs ps s = r at *
  obtain ⟨rs, rc⟩ := r
  rcases HI.out with h | h
  · change rc = 0 at h
    subst h
    clear HI
    go_enter Tryz.func33, Tryz.ntmps33
    go_wp2_with fail
    refine HP.out.mono ?_
    rintro e w3 ⟨rfl, hb3⟩
    have HB3 := veil (HB.out.trans (hb3.mono HB.out.size))
    clear hb3
    go_wp2_with fail
    go_ret2
    exact ⟨rfl, HB3.out⟩
  · obtain ⟨rfl, rfl⟩ : rs = ⟨#[]⟩ ∧ rc = 6 := by
      unfold badEx at h
      injection h with h1 h2
      exact ⟨h1, h2⟩
    clear HI h
    go_enter Tryz.func33, Tryz.ntmps33
    go_wp2_with fail
    refine HP.out.mono ?_
    rintro e w3 ⟨rfl, hb3⟩
    have HB3 := veil (HB.out.trans (hb3.mono HB.out.size))
    clear hb3
    go_wp2_with fail
    go_ret2
    exact ⟨rfl, HB3.out⟩

/-- what some expressions are, one by one. -/
def eachErr (ps : List Kn) (fc : ByteArray → Fc) (xs : List Ex) : Int := firstBad Prod.snd (exsIs ps fc xs)
def eachIs (ps : List Kn) (fc : ByteArray → Fc) (xs : List Ex) : List ByteArray := xs.map (fun x => (exIs ps fc x).1)
def Each (ps : List Kn) (fc : ByteArray → Fc) (xs : List Ex) (W : World) (e : Ending) (w' : World) : Prop :=
  ∃ a n cap, e = .returned (.tuple #[.slice a n cap, .int .i64 (eachErr ps fc xs)]) ∧ (eachErr ps fc xs = 0 → SlAt (fun b => b < w'.heap.size) (StrAt w') 1 (eachIs ps fc xs) (.slice a n cap)) ∧ Below W.heap.size W w'
theorem each_none {ps : List Kn} {fc : ByteArray → Fc} {xs : List Ex} (h : ∀ q (hq : q < xs.length), (exIs ps fc xs[q]).2 = 0) : eachErr ps fc xs = 0 := by
  unfold eachErr
  rw [exsIs_map, firstBad_map]
  exact firstBad_none (fun x => (exIs ps fc x).2) xs h
theorem each_at {ps : List Kn} {fc : ByteArray → Fc} {xs : List Ex} {j : Nat} (hj : j < xs.length) (h : ∀ q (hq : q < j), (exIs ps fc (xs[q]'(by omega))).2 = 0) (hb : (exIs ps fc xs[j]).2 ≠ 0) : eachErr ps fc xs = (exIs ps fc xs[j]).2 := by
  unfold eachErr
  rw [exsIs_map, firstBad_map]
  exact firstBad_at (fun x => (exIs ps fc x).2) xs j hj h hb
theorem endIs_each {ps : List Kn} {fc : ByteArray → Fc} {k : Int} {sg : Sg} {xs : List Ex} : endIs k sg (exsIs ps fc xs) = if eachErr ps fc xs = 0 then finIs k sg (eachIs ps fc xs) else badEx (eachErr ps fc xs) := by
  unfold endIs eachErr eachIs
  rw [exsIs_map, List.map_map]
  rfl

set_option maxRecDepth 100000 in
set_option maxHeartbeats 8000000 in
theorem each_any (S : Nat → Prop) (ps : List Kn) (fc : ByteArray → Fc) (lB kB oB mB iB : Nat) (w W : World) (hS : ∀ b, S b → b < w.heap.size) (hW : Below w.heap.size w W) (d : Nat)
    (HExpr : ∀ (x : Ex) (v : Value) (W : World), Below w.heap.size w W → exFault x (d + 1) = 0 → ExIs S w x v → Calls Tryz.prog 16 #[.agg #[.func (.func 27) #[] #[.pointer (some ⟨lB, 0, none⟩), .pointer (some ⟨kB, 0, none⟩)], .func (.func 30) #[] #[.pointer (some ⟨oB, 0, none⟩), .pointer (some ⟨mB, 0, none⟩), .pointer (some ⟨iB, 0, none⟩)]], v] W (IsAns ps fc x W))
    (xs : List Ex) (v : Value) (h8 : xs.length ≤ 8) (hx : exsFault xs (d + 1) = 0) (hv : SlAt S (ExAt S w) 5 xs v) (hSz : ∀ x, (exIs ps fc x).1.size ≤ 281474976710656) :
    Calls Tryz.prog 35 #[.agg #[.func (.func 27) #[] #[.pointer (some ⟨lB, 0, none⟩), .pointer (some ⟨kB, 0, none⟩)], .func (.func 30) #[] #[.pointer (some ⟨oB, 0, none⟩), .pointer (some ⟨mB, 0, none⟩), .pointer (some ⟨iB, 0, none⟩)]], v] W (Each ps fc xs W) := by
  have hr := reachBytes_lt
  have HV := veil hv
  obtain ⟨a, cap, rfl⟩ := hv.is
  have hlen : xs.length ≤ 9223372036854775807 := by omega
  have hkl : (eachIs ps fc xs).length = xs.length := List.length_map ..
  obtain ⟨arr, harr, hmk⟩ := made_row Tryz.underlying22 str_info xs.length (by omega) (by unfold maxLen; omega)
  obtain ⟨w0, hw0, hb0, hs0, n0, n1⟩ : ∃ w0, W.alloc (.cells #[.func (.func 27) #[] #[.pointer (some ⟨lB, 0, none⟩), .pointer (some ⟨kB, 0, none⟩)], .func (.func 30) #[] #[.pointer (some ⟨oB, 0, none⟩), .pointer (some ⟨mB, 0, none⟩), .pointer (some ⟨iB, 0, none⟩)]] 60) = w0 ∧ Below W.heap.size W w0 ∧ w0.heap.size = W.heap.size + 1 ∧ w0.cell? ⟨W.heap.size, 0, none⟩ = some (.func (.func 27) #[] #[.pointer (some ⟨lB, 0, none⟩), .pointer (some ⟨kB, 0, none⟩)]) ∧ w0.cell? ⟨W.heap.size, 1, none⟩ = some (.func (.func 30) #[] #[.pointer (some ⟨oB, 0, none⟩), .pointer (some ⟨mB, 0, none⟩), .pointer (some ⟨iB, 0, none⟩)]) := ⟨_, rfl, (Below.refl _ _).alloc (Nat.le_refl _) _, by simp, by simp [go_sem], by simp [go_sem]⟩
  have HJ : Hid (RowJ w0 9 1 (StrP w0.heap.size) (eachIs ps fc xs) 0 (w0.alloc (.cells arr 9))) := RowJ.start (by rw [hkl]; exact harr)
  have HEx := veil HExpr
  have HXs := veil (exsFault_mem hx)
  have HKl := veil hkl
  have HW0 := veil hw0
  have HB0 := veil hb0
  have HwW := veil hW
  have HN : Hid (∀ W', Below w0.heap.size w0 W' → W'.cell? ⟨W.heap.size, 0, none⟩ = some (.func (.func 27) #[] #[.pointer (some ⟨lB, 0, none⟩), .pointer (some ⟨kB, 0, none⟩)]) ∧ W'.cell? ⟨W.heap.size, 1, none⟩ = some (.func (.func 30) #[] #[.pointer (some ⟨oB, 0, none⟩), .pointer (some ⟨mB, 0, none⟩), .pointer (some ⟨iB, 0, none⟩)]) ∧ Below w.heap.size w W' ∧ Below W.heap.size W W') := fun W' h => by
    have l0 : W.heap.size < w0.heap.size := by omega
    exact ⟨(h.cell (p := ⟨W.heap.size, 0, none⟩) l0).trans n0, (h.cell (p := ⟨W.heap.size, 1, none⟩) l0).trans n1, hW.trans ((hb0.trans (h.mono hb0.size)).mono hW.size), hb0.trans (h.mono hb0.size)⟩
  have HZ := veil hSz
  have hs0' : W.heap.size < w0.heap.size := by omega
  clear hv harr HExpr hx hkl hw0 hb0 hW hs0 n0 n1 hSz
  go_enter Tryz.func35, Tryz.ntmps35
  go_wp2_with (first | (rw [HW0.out]; clear HW0) | fail)
  clear hmk
  go_loopw [16] (fun i wr => ∃ j : Nat, j ≤ xs.length ∧ i = .int .i64 j ∧ (∀ q (_ : q < j) (hq : q < xs.length), (exIs ps fc xs[q]).2 = 0) ∧ RowJ w0 9 1 (StrP w0.heap.size) (eachIs ps fc xs) j wr) (fun i _ => xs.length - (intOf i).toNat)
  case atStart => exact ⟨0, Nat.zero_le _, rfl, (fun q h => by omega), HJ.out⟩
  case round =>
    obtain ⟨j, hj, rfl, hall, hrj⟩ := hrel
    have HAll := veil hall
    have HR := veil hrj
    obtain ⟨n0, n1, hbw, hbW⟩ := HN.out wr hrj.bel
    clear HJ hall
    by_cases hlt : j < xs.length
    · have hlt' : (j : Int) < (xs.length : Int) := by omega
      have hj0 : (0 : Int) ≤ (j : Int) := by omega
      obtain ⟨_, b, off, rfl, hbk, hat⟩ := HV.out.at hlt
      obtain ⟨kd, nu, fo, na, va, c0, c1, c2, c3, c4, hcs⟩ := exAt_cells.1 hat
      obtain ⟨va1, va2, va3, rfl⟩ := hcs.slice
      have hbk' := hS b hbk
      have d0 := (hbw.cell (p := ⟨b, off + j * 5, none⟩) hbk').trans c0
      have d1 := (hbw.cell (p := ⟨b, off + j * 5 + 1, none⟩) hbk').trans c1
      have d2 := (hbw.cell (p := ⟨b, off + j * 5 + 2, none⟩) hbk').trans c2
      have d3 := (hbw.cell (p := ⟨b, off + j * 5 + 3, none⟩) hbk').trans c3
      have d4 := (hbw.cell (p := ⟨b, off + j * 5 + 4, none⟩) hbk').trans c4
      have HCall : Hid (∀ W', Below w.heap.size w W' → Calls Tryz.prog 16 #[.agg #[.func (.func 27) #[] #[.pointer (some ⟨lB, 0, none⟩), .pointer (some ⟨kB, 0, none⟩)], .func (.func 30) #[] #[.pointer (some ⟨oB, 0, none⟩), .pointer (some ⟨mB, 0, none⟩), .pointer (some ⟨iB, 0, none⟩)]], .agg #[.int .i64 kd, .int .i64 nu, .string fo, .string na, .slice va1 va2 va3]] W' (IsAns ps fc xs[j] W')) := fun W' hW' =>
        HEx.out xs[j] _ W' hW' (HXs.out _ (List.getElem_mem hlt)) ⟨_, _, _, _, _, rfl, hcs⟩
      have hkj : j < (eachIs ps fc xs).length := by rw [HKl.out]; exact hlt
      have hkv : (eachIs ps fc xs)[j] = (exIs ps fc xs[j]).1 := List.getElem_map ..
      have hsz : (exIs ps fc xs[j]).1.size ≤ maxLen := Nat.le_trans (HZ.out _) (by unfold maxLen; omega)
      have HN2 : Hid (∀ W1, Below wr.heap.size wr W1 → RowJ w0 9 1 (StrP w0.heap.size) (eachIs ps fc xs) (j + 1) (W1.setCell ⟨w0.heap.size, j, none⟩ (.string (exIs ps fc xs[j]).1))) := fun W1 h1 => by
        have := hrj.step (strP_stays _) h1 hkj [.string (exIs ps fc xs[j]).1] rfl (fun hc _ _ => ⟨by rw [hkv]; exact hc 0 (by simp), by rw [hkv]; exact hsz⟩)
        rw [Nat.mul_one] at this
        exact this
      have HRm : Hid (∀ W1, Below wr.heap.size wr W1 → (∃ u, W1.cell? ⟨w0.heap.size, j, none⟩ = some u) ∧ W1.frozen? ⟨w0.heap.size, j, none⟩ = false) := fun W1 h1 => by
        have := hrj.room h1 hkj 0 (by omega)
        rw [Nat.mul_one] at this
        exact this
      have HBw : Hid (∀ W1, Below wr.heap.size wr W1 → Below w.heap.size w W1) := fun W1 h1 => hbw.trans (h1.mono hbw.size)
      have HBW : Hid (∀ W1, Below wr.heap.size wr W1 → Below W.heap.size W W1) := fun W1 h1 => hbW.trans (h1.mono hbW.size)
      have HBad : Hid ((exIs ps fc xs[j]).2 ≠ 0 → eachErr ps fc xs = (exIs ps fc xs[j]).2) := fun h => each_at hlt (fun q hq => HAll.out q hq (by omega)) h
      have HAll' : Hid ((exIs ps fc xs[j]).2 = 0 → ∀ q (_ : q < j + 1) (hq : q < xs.length), (exIs ps fc xs[q]).2 = 0) := fun h q hq hq' => by
        by_cases e : q = j
        · subst e; exact h
        · exact HAll.out q (by omega) hq'
      have hrlt := hrj.lt
      clear hrj c0 c1 c2 c3 c4 hat hcs HV HEx HXs hkv hsz hbw hbW HAll HR HZ
      unfold IsAns at HCall
      generalize exIs ps fc xs[j] = r at *
      obtain ⟨rs, rc⟩ := r
      obtain ⟨W1, HW1, e0, e1, e2, e3, e4, m0, m1, hs1, hb1⟩ : ∃ W1, Hid (wr.alloc (.cells #[.int .i64 kd, .int .i64 nu, .string fo, .string na, .slice va1 va2 va3] 52) = W1) ∧ W1.cell? ⟨wr.heap.size, 0, none⟩ = some (.int .i64 kd) ∧ W1.cell? ⟨wr.heap.size, 1, none⟩ = some (.int .i64 nu) ∧ W1.cell? ⟨wr.heap.size, 2, none⟩ = some (.string fo) ∧ W1.cell? ⟨wr.heap.size, 3, none⟩ = some (.string na) ∧ W1.cell? ⟨wr.heap.size, 4, none⟩ = some (.slice va1 va2 va3) ∧ W1.cell? ⟨W.heap.size, 0, none⟩ = some (.func (.func 27) #[] #[.pointer (some ⟨lB, 0, none⟩), .pointer (some ⟨kB, 0, none⟩)]) ∧ W1.cell? ⟨W.heap.size, 1, none⟩ = some (.func (.func 30) #[] #[.pointer (some ⟨oB, 0, none⟩), .pointer (some ⟨mB, 0, none⟩), .pointer (some ⟨iB, 0, none⟩)]) ∧ W1.heap.size = wr.heap.size + 1 ∧ Below wr.heap.size wr W1 := by
        have hb : Below wr.heap.size wr (wr.alloc (.cells #[.int .i64 kd, .int .i64 nu, .string fo, .string na, .slice va1 va2 va3] 52)) := (Below.refl _ _).alloc (Nat.le_refl _) _
        have ln := World.block_lt_of_cell? _ _ n0
        exact ⟨_, rfl, by simp [go_sem], by simp [go_sem], by simp [go_sem], by simp [go_sem], by simp [go_sem], (hb.cell (p := ⟨W.heap.size, 0, none⟩) ln).trans n0, (hb.cell (p := ⟨W.heap.size, 1, none⟩) ln).trans n1, by simp, hb⟩
      have HB1 := veil hb1
      clear hb1 n0 n1
      go_wp2_with (first | (rw [HW1.out]; clear HW1) | fail)
      refine (HCall.out _ (HBw.out _ HB1.out)).mono ?_
      rintro e w3 ⟨rfl, hb3⟩
      have hb13 := HB1.out.trans (hb3.mono HB1.out.size)
      obtain ⟨⟨y, hy⟩, hfz⟩ := HRm.out _ hb13
      have HN3 := veil (HN2.out _ hb13)
      have HBW3 := veil (HBW.out _ hb13)
      clear hb3 hb13 HCall HN2 HRm HBw HBW HN e0 e1 e2 e3 e4 m0 m1 d0 d1 d2 d3 d4 hs1
      by_cases hc : rc = 0
      · subst hc
        have HAll3 := veil (HAll'.out rfl)
        clear HAll' HBad
        go_wp2_with fail
        exact ⟨⟨j + 1, by omega, by go_num, HAll3.out, HN3.out⟩, by simp [intOf]; omega⟩
      · have hc' : (rc != 0) = true := by simp [hc]
        have HBd := veil (HBad.out hc)
        have HNe : Hid (¬ rc = 0) := hc
        clear HAll' HBad hc hy hfz
        go_wp2_with fail
        go_ret2
        exact ⟨_, _, _, by rw [HBd.out]; rfl, fun h => by rw [HBd.out] at h; exact absurd h HNe.out, HBW3.out⟩
    · have hnl : ¬ (j : Int) < (xs.length : Int) := by omega
      have hje : j = xs.length := by omega
      subst hje
      have HZ0 : Hid (eachErr ps fc xs = 0) := each_none (fun q hq => HAll.out q hq hq)
      have HWh : Hid (SlAt (fun b => b < wr.heap.size) (StrAt wr) 1 (eachIs ps fc xs) (.slice (some ⟨w0.heap.size, 0, none⟩) xs.length xs.length)) := by
        have h2 : RowJ w0 9 1 (StrP w0.heap.size) (eachIs ps fc xs) (eachIs ps fc xs).length wr := by rw [HKl.out]; exact hrj
        have := h2.whole (by rw [HKl.out]; unfold maxLen; omega) (S := fun b => b < wr.heap.size) hrj.lt (Q := StrAt wr) (fun _ _ h => h)
        rwa [HKl.out] at this
      have HBW := veil hbW
      clear hrj HV HAll HR hbW hbw n0 n1 HEx HXs HZ HN
      go_wp2_with fail
      go_ret2
      exact ⟨_, _, _, by rw [HZ0.out]; rfl, fun _ => HWh.out, HBW.out⟩

theorem fin_call (sg : Sg) (is : List ByteArray) : finIs 4 sg is = fitR (allVal sg.params is sg.result) (allErr sg.params is sg.result == 0) := by
  unfold finIs fitR
  rw [if_pos rfl]
  by_cases h : allErr sg.params is sg.result = 0
  · rw [if_pos h, h]; rfl
  · rw [if_neg h, if_neg (by simpa using h)]

set_option maxRecDepth 100000 in
set_option maxHeartbeats 8000000 in
theorem call_any (ps : List Kn) (fc : ByteArray → Fc) (lB kB oB mB iB : Nat) (w W : World) (hW : Below w.heap.size w W)
    (HFun : ∀ W o s, Below w.heap.size w W → Calls Tryz.prog 30 #[.string o, .string s, .pointer (some ⟨oB, 0, none⟩), .pointer (some ⟨mB, 0, none⟩), .pointer (some ⟨iB, 0, none⟩)] W fun e w' => ∃ a n cap, e = .returned (.tuple #[.agg #[.string (funcVal (fc o) s).name, .slice a n cap, .string (funcVal (fc o) s).result], .bool (funcErr (fc o) s == 0)]) ∧ SgIs (fun b => b < w'.heap.size) w' (funcVal (fc o) s) (.agg #[.string (funcVal (fc o) s).name, .slice a n cap, .string (funcVal (fc o) s).result]) ∧ Below W.heap.size W w')
    (num : Int) (o s : ByteArray) (xs : List Ex) (v : Value) (hvs : ∃ a c, v = .slice a xs.length c)
    (HEach : ∀ W, Below w.heap.size w W → Calls Tryz.prog 35 #[.agg #[.func (.func 27) #[] #[.pointer (some ⟨lB, 0, none⟩), .pointer (some ⟨kB, 0, none⟩)], .func (.func 30) #[] #[.pointer (some ⟨oB, 0, none⟩), .pointer (some ⟨mB, 0, none⟩), .pointer (some ⟨iB, 0, none⟩)]], v] W (Each ps fc xs W)) :
    Calls Tryz.prog 34 #[.agg #[.func (.func 27) #[] #[.pointer (some ⟨lB, 0, none⟩), .pointer (some ⟨kB, 0, none⟩)], .func (.func 30) #[] #[.pointer (some ⟨oB, 0, none⟩), .pointer (some ⟨mB, 0, none⟩), .pointer (some ⟨iB, 0, none⟩)]], .agg #[.int .i64 4, .int .i64 num, .string o, .string s, v]] W (IsAns ps fc (.mk 4 num o s xs) W) := by
  obtain ⟨xa, xc, rfl⟩ := hvs
  have HE : Hid (exIs ps fc (.mk 4 num o s xs) = if callErr fc o s xs.length = 0 then endIs 4 (funcVal (fc o) s) (exsIs ps fc xs) else badEx (callErr fc o s xs.length)) := by show _ = _; rw [exIs, if_neg (by omega), if_neg (by omega), if_neg (by omega), if_pos rfl]
  have HCe : Hid (callErr fc o s xs.length = if funcErr (fc o) s = 0 then (if (funcVal (fc o) s).params.length = xs.length then 0 else 7) else 6) := rfl
  have HF := veil (fun W => HFun W o s)
  unfold IsAns
  clear HFun
  generalize exIs ps fc (.mk 4 num o s xs) = ans at *
  generalize callErr fc o s xs.length = ce at *
  generalize hfe : funcErr (fc o) s = fe at *
  generalize hsg : funcVal (fc o) s = sg at *
  clear hfe hsg
  obtain ⟨W2, hwe, hs2, hbel, n0, n1, x0, x1, x2, x3, x4⟩ : ∃ W2, (W.alloc (.cells #[.func (.func 27) #[] #[.pointer (some ⟨lB, 0, none⟩), .pointer (some ⟨kB, 0, none⟩)], .func (.func 30) #[] #[.pointer (some ⟨oB, 0, none⟩), .pointer (some ⟨mB, 0, none⟩), .pointer (some ⟨iB, 0, none⟩)]] 60)).alloc (.cells #[.int .i64 4, .int .i64 num, .string o, .string s, .slice xa xs.length xc] 52) = W2 ∧ W2.heap.size = W.heap.size + 2 ∧ Below W.heap.size W W2 ∧ W2.cell? ⟨W.heap.size, 0, none⟩ = some (.func (.func 27) #[] #[.pointer (some ⟨lB, 0, none⟩), .pointer (some ⟨kB, 0, none⟩)]) ∧ W2.cell? ⟨W.heap.size, 1, none⟩ = some (.func (.func 30) #[] #[.pointer (some ⟨oB, 0, none⟩), .pointer (some ⟨mB, 0, none⟩), .pointer (some ⟨iB, 0, none⟩)]) ∧ W2.cell? ⟨W.heap.size + 1, 0, none⟩ = some (.int .i64 4) ∧ W2.cell? ⟨W.heap.size + 1, 1, none⟩ = some (.int .i64 num) ∧ W2.cell? ⟨W.heap.size + 1, 2, none⟩ = some (.string o) ∧ W2.cell? ⟨W.heap.size + 1, 3, none⟩ = some (.string s) ∧ W2.cell? ⟨W.heap.size + 1, 4, none⟩ = some (.slice xa xs.length xc) :=
    ⟨_, rfl, by simp, ((Below.refl _ _).alloc (Nat.le_refl _) _).alloc (by simp) _, by simp [go_sem], by simp [go_sem], by simp [go_sem], by simp [go_sem], by simp [go_sem], by simp [go_sem], by simp [go_sem]⟩
  have l0 : W.heap.size < W2.heap.size := by omega
  have l1 : W.heap.size + 1 < W2.heap.size := by omega
  have HBox : Hid (∀ W', Below W2.heap.size W2 W' → (W'.cell? ⟨W.heap.size, 0, none⟩ = some (.func (.func 27) #[] #[.pointer (some ⟨lB, 0, none⟩), .pointer (some ⟨kB, 0, none⟩)]) ∧ W'.cell? ⟨W.heap.size, 1, none⟩ = some (.func (.func 30) #[] #[.pointer (some ⟨oB, 0, none⟩), .pointer (some ⟨mB, 0, none⟩), .pointer (some ⟨iB, 0, none⟩)]) ∧ W'.cell? ⟨W.heap.size + 1, 4, none⟩ = some (.slice xa xs.length xc)) ∧ Below W.heap.size W W' ∧ Below w.heap.size w W') := fun W' h => by
    have hb := hbel.trans (h.mono hbel.size)
    exact ⟨⟨(h.cell (p := ⟨W.heap.size, 0, none⟩) l0).trans n0, (h.cell (p := ⟨W.heap.size, 1, none⟩) l0).trans n1, (h.cell (p := ⟨W.heap.size + 1, 4, none⟩) l1).trans x4⟩, hb, hW.trans (hb.mono hW.size)⟩
  have HWe := veil hwe
  have HF2 := veil (HF.out W2 (hW.trans (hbel.mono hW.size)))
  have HEv := veil HEach
  clear hwe hbel hW HF HEach hs2
  generalize hsn : sg.name = sn at *
  generalize hsr : sg.result = sr at *
  have HSn := veil hsn
  have HSr := veil hsr
  clear hsn hsr
  go_enter Tryz.func34, Tryz.ntmps34
  go_wp2_with (first | (rw [HWe.out]; clear HWe) | fail)
  refine HF2.out.mono ?_
  rintro e w3 ⟨ga, gn, gc, rfl, hsg, hb3⟩
  obtain ⟨W4, HW4, hb4, hs4, e0, e1, e2⟩ : ∃ W4, Hid (w3.alloc (.cells #[.string sn, .slice ga gn gc, .string sr] 44) = W4) ∧ Below w3.heap.size w3 W4 ∧ W4.heap.size = w3.heap.size + 1 ∧ W4.cell? ⟨w3.heap.size, 0, none⟩ = some (.string sn) ∧ W4.cell? ⟨w3.heap.size, 1, none⟩ = some (.slice ga gn gc) ∧ W4.cell? ⟨w3.heap.size, 2, none⟩ = some (.string sr) :=
    ⟨_, rfl, (Below.refl _ _).alloc (Nat.le_refl _) _, by simp, by simp [go_sem], by simp [go_sem], by simp [go_sem]⟩
  have hsg4 := hsg.keep (S' := fun b => b < W4.heap.size) ⟨fun b hb => hb4.block b hb, fun b hb => Nat.lt_of_lt_of_le hb hb4.size⟩
  have hb24 := hb3.trans (hb4.mono hb3.size)
  obtain ⟨⟨k0, k1, k4⟩, hbW, hbw⟩ := HBox.out _ hb24
  obtain ⟨hgn, hgr, hgp⟩ := sgIs_slice (g := sg) (by rw [HSn.out, HSr.out]; exact hsg4)
  rw [HSr.out] at hgr
  have HGp : Hid (∀ W', Below W4.heap.size W4 W' → StrRow W' (.slice ga gn gc) sg.params) := fun W' h => strRow_of (strSl_keep (Keeps.below h (fun _ h => h)) hgp)
  have HGr := veil hgr
  have HB24 := veil hb24
  have HBW := veil hbW
  have HBw := veil hbw
  have h34 : w3.heap.size < W4.heap.size := by omega
  subst hgn
  have hgl := hgp.len
  unfold maxLen at hgl
  clear hsg hsg4 hb3 hb4 hb24 hbW hbw hgp hgr hs4 HF2 n0 n1 x0 x1 x2 x3
  by_cases hfe : fe = 0
  · subst hfe
    by_cases hln : sg.params.length = xs.length
    · have hce : ce = 0 := by rw [HCe.out, if_pos rfl, if_pos hln]
      have HR : Hid (ans = endIs 4 sg (exsIs ps fc xs)) := by show _ = _; rw [HE.out, if_pos hce]
      have hne : ((xs.length : Int) != (sg.params.length : Int)) = false := by simp [hln]
      clear HCe hce HE hln
      go_wp2_with (first | (rw [HW4.out]; clear HW4) | fail)
      refine (HEv.out _ HBw.out).mono ?_
      rintro e w5 ⟨ra, rn, rc, rfl, hrow, hb5⟩
      have f1 := (hb5.cell (p := ⟨w3.heap.size, 1, none⟩) h34).trans e1
      have f2 := (hb5.cell (p := ⟨w3.heap.size, 2, none⟩) h34).trans e2
      have HB5 := veil (HBW.out.trans (hb5.mono HBW.out.size))
      have HGp5 := veil (HGp.out _ hb5)
      have HEnd : Hid (endIs 4 sg (exsIs ps fc xs) = if eachErr ps fc xs = 0 then finIs 4 sg (eachIs ps fc xs) else badEx (eachErr ps fc xs)) := endIs_each
      have HRow : Hid (eachErr ps fc xs = 0 → SlAt (fun b => b < w5.heap.size) (StrAt w5) 1 (eachIs ps fc xs) (.slice ra rn rc)) := hrow
      clear hb5 hrow e0 e1 e2 HGp HB24 HBW HBw HEv HBox k0 k1 k4
      generalize eachErr ps fc xs = ee at *
      generalize eachIs ps fc xs = is at *
      by_cases hee : ee = 0
      · subst hee
        have hrow := HRow.out rfl
        have HAll : Hid (Calls Tryz.prog 57 #[.slice ga sg.params.length gc, .slice ra rn rc, .string sr] w5 fun e w' => e = .returned (.tuple #[.string (allVal sg.params is sr), .int .i64 (allErr sg.params is sr)]) ∧ Below w5.heap.size w5 w') := all_any _ _ _ _ _ HGr.out w5 HGp5.out (strRow_of hrow)
        have HF4 : Hid (ans = fitR (allVal sg.params is sr) (allErr sg.params is sr == 0)) := by show _ = _; rw [HR.out, HEnd.out, if_pos rfl, fin_call, HSr.out]
        clear HRow HEnd HR hrow HGp5 HGr
        generalize allVal sg.params is sr = av at *
        generalize allErr sg.params is sr = ae at *
        go_wp2_with fail
        refine HAll.out.mono ?_
        rintro e w6 ⟨rfl, hb6⟩
        have HB6 := veil (HB5.out.trans (hb6.mono HB5.out.size))
        clear hb6
        go_wp2_with fail
        refine (fitting_any av (ae == 0) _).mono ?_
        rintro e w7 ⟨rfl, rfl⟩
        go_wp2_with fail
        go_ret2
        exact ⟨by rw [HF4.out]; rfl, HB6.out⟩
      · have HA : Hid (ans = badEx ee) := by show _ = _; rw [HR.out, HEnd.out, if_neg hee]
        have hee' : (ee != 0) = true := by simp [hee]
        clear HRow HEnd HR HGp5 HGr hee
        go_wp2_with fail
        go_ret2
        exact ⟨by rw [HA.out]; rfl, HB5.out⟩
    · have hce : ce = 7 := by rw [HCe.out, if_pos rfl, if_neg hln]
      have HR : Hid (ans = badEx 7) := by show _ = _; rw [HE.out, hce, if_neg (by decide)]
      have hne : ((xs.length : Int) != (sg.params.length : Int)) = true := by simp; omega
      clear HCe hce HE hln HEv HGp HGr
      go_wp2_with (first | (rw [HW4.out]; clear HW4) | fail)
      go_ret2
      exact ⟨by rw [HR.out]; rfl, HBW.out⟩
  · have hce : ce = 6 := by rw [HCe.out, if_neg hfe]
    have HR : Hid (ans = badEx 6) := by show _ = _; rw [HE.out, hce, if_neg (by decide)]
    have hfe' : (fe == 0) = false := by simp [hfe]
    clear HCe hce HE HEv HGp HGr hfe
    go_wp2_with (first | (rw [HW4.out]; clear HW4) | fail)
    go_ret2
    exact ⟨by rw [HR.out]; rfl, HBW.out⟩

set_option maxRecDepth 100000 in
set_option maxHeartbeats 8000000 in
theorem expr_step (S : Nat → Prop) (ps : List Kn) (fc : ByteArray → Fc) (lB kB oB mB iB : Nat) (w W : World) (hS : ∀ b, S b → b < w.heap.size) (hW : Below w.heap.size w W) (d : Nat)
    (HPar : ∀ W s, Below w.heap.size w W → Calls Tryz.prog 27 #[.string s, .pointer (some ⟨lB, 0, none⟩), .pointer (some ⟨kB, 0, none⟩)] W fun e w' => e = .returned (.tuple #[.string (parIs ps s).1, .bool ((parIs ps s).2 == 0)]) ∧ Below W.heap.size W w')
    (HFun : ∀ W o s, Below w.heap.size w W → Calls Tryz.prog 30 #[.string o, .string s, .pointer (some ⟨oB, 0, none⟩), .pointer (some ⟨mB, 0, none⟩), .pointer (some ⟨iB, 0, none⟩)] W fun e w' => ∃ a n cap, e = .returned (.tuple #[.agg #[.string (funcVal (fc o) s).name, .slice a n cap, .string (funcVal (fc o) s).result], .bool (funcErr (fc o) s == 0)]) ∧ SgIs (fun b => b < w'.heap.size) w' (funcVal (fc o) s) (.agg #[.string (funcVal (fc o) s).name, .slice a n cap, .string (funcVal (fc o) s).result]) ∧ Below W.heap.size W w')
    (HExpr : ∀ (x : Ex) (v : Value) (W : World), Below w.heap.size w W → exFault x (d + 1) = 0 → ExIs S w x v → Calls Tryz.prog 16 #[.agg #[.func (.func 27) #[] #[.pointer (some ⟨lB, 0, none⟩), .pointer (some ⟨kB, 0, none⟩)], .func (.func 30) #[] #[.pointer (some ⟨oB, 0, none⟩), .pointer (some ⟨mB, 0, none⟩), .pointer (some ⟨iB, 0, none⟩)]], v] W (IsAns ps fc x W))
    (x : Ex) (v : Value) (hx : exFault x d = 0) (hv : ExIs S w x v) (hSz : ∀ x, (exIs ps fc x).1.size ≤ 281474976710656) :
    Calls Tryz.prog 16 #[.agg #[.func (.func 27) #[] #[.pointer (some ⟨lB, 0, none⟩), .pointer (some ⟨kB, 0, none⟩)], .func (.func 30) #[] #[.pointer (some ⟨oB, 0, none⟩), .pointer (some ⟨mB, 0, none⟩), .pointer (some ⟨iB, 0, none⟩)]], v] W (IsAns ps fc x W) := by
  obtain ⟨k, num, o, s, xv, rfl, xs, rfl, _, _, hsl⟩ := hv
  obtain ⟨_, hk7, h8, _, hcf, hxs⟩ := ex_parts hx
  have HEach : Hid (∀ W, Below w.heap.size w W → Calls Tryz.prog 35 #[.agg #[.func (.func 27) #[] #[.pointer (some ⟨lB, 0, none⟩), .pointer (some ⟨kB, 0, none⟩)], .func (.func 30) #[] #[.pointer (some ⟨oB, 0, none⟩), .pointer (some ⟨mB, 0, none⟩), .pointer (some ⟨iB, 0, none⟩)]], xv] W (Each ps fc xs W)) := fun W hW =>
    each_any S ps fc lB kB oB mB iB w W hS hW d HExpr xs xv (by omega) hxs hsl hSz
  obtain ⟨xa, xc, rfl⟩ := hsl.is
  obtain ⟨W2, hwe, hs2, hbel, n0, n1, x0, x1, x2, x3, x4⟩ : ∃ W2, (W.alloc (.cells #[.func (.func 27) #[] #[.pointer (some ⟨lB, 0, none⟩), .pointer (some ⟨kB, 0, none⟩)], .func (.func 30) #[] #[.pointer (some ⟨oB, 0, none⟩), .pointer (some ⟨mB, 0, none⟩), .pointer (some ⟨iB, 0, none⟩)]] 60)).alloc (.cells #[.int .i64 k, .int .i64 num, .string o, .string s, .slice xa xs.length xc] 52) = W2 ∧ W2.heap.size = W.heap.size + 2 ∧ Below W.heap.size W W2 ∧ W2.cell? ⟨W.heap.size, 0, none⟩ = some (.func (.func 27) #[] #[.pointer (some ⟨lB, 0, none⟩), .pointer (some ⟨kB, 0, none⟩)]) ∧ W2.cell? ⟨W.heap.size, 1, none⟩ = some (.func (.func 30) #[] #[.pointer (some ⟨oB, 0, none⟩), .pointer (some ⟨mB, 0, none⟩), .pointer (some ⟨iB, 0, none⟩)]) ∧ W2.cell? ⟨W.heap.size + 1, 0, none⟩ = some (.int .i64 k) ∧ W2.cell? ⟨W.heap.size + 1, 1, none⟩ = some (.int .i64 num) ∧ W2.cell? ⟨W.heap.size + 1, 2, none⟩ = some (.string o) ∧ W2.cell? ⟨W.heap.size + 1, 3, none⟩ = some (.string s) ∧ W2.cell? ⟨W.heap.size + 1, 4, none⟩ = some (.slice xa xs.length xc) :=
    ⟨_, rfl, by simp, ((Below.refl _ _).alloc (Nat.le_refl _) _).alloc (by simp) _, by simp [go_sem], by simp [go_sem], by simp [go_sem], by simp [go_sem], by simp [go_sem], by simp [go_sem], by simp [go_sem]⟩
  have l1 : W.heap.size + 1 < W2.heap.size := by omega
  have hw2 : Below w.heap.size w W2 := hW.trans (hbel.mono hW.size)
  have HWe := veil hwe
  have HBel := veil hbel
  unfold IsAns
  by_cases e1 : k = 1
  · subst e1
    have HE : Hid (exIs ps fc (.mk 1 num o s xs) = (intK, 0)) := by show _ = _; rw [exIs, if_pos rfl]
    generalize exIs ps fc (.mk 1 num o s xs) = ans at *
    clear HPar HFun HExpr HEach hsl hx hxs hcf hk7 hSz hS hwe hbel
    go_enter Tryz.func16, Tryz.ntmps16
    go_wp2_with (first | (rw [HWe.out]; clear HWe) | fail)
    go_ret2
    exact ⟨by rw [HE.out]; rfl, HBel.out⟩
  by_cases e2 : k = 2
  · subst e2
    have HE : Hid (exIs ps fc (.mk 2 num o s xs) = (textK, 0)) := by show _ = _; rw [exIs, if_neg (by decide), if_pos rfl]
    generalize exIs ps fc (.mk 2 num o s xs) = ans at *
    clear HPar HFun HExpr HEach hsl hx hxs hcf hk7 hSz hS hwe hbel e1
    go_enter Tryz.func16, Tryz.ntmps16
    go_wp2_with (first | (rw [HWe.out]; clear HWe) | fail)
    go_ret2
    exact ⟨by rw [HE.out]; rfl, HBel.out⟩
  by_cases e3 : k = 3
  · subst e3
    have HE : Hid (exIs ps fc (.mk 3 num o s xs) = parIs ps s) := by show _ = _; rw [exIs, if_neg (by decide), if_neg (by decide), if_pos rfl]
    have HP := veil (paramOf_any ps lB kB oB mB iB w W2 s hw2 HPar)
    generalize exIs ps fc (.mk 3 num o s xs) = ans at *
    clear HPar HFun HExpr HEach hsl hx hxs hcf hk7 hSz hS hwe hbel e1 e2
    generalize parIs ps s = r at *
    go_enter Tryz.func16, Tryz.ntmps16
    go_wp2_with (first | (rw [HWe.out]; clear HWe) | fail)
    refine HP.out.mono ?_
    rintro e w3 ⟨rfl, hb3⟩
    have HB3 := veil (HBel.out.trans (hb3.mono HBel.out.size))
    clear hb3
    go_wp2_with fail
    go_ret2
    exact ⟨by rw [HE.out]; rfl, HB3.out⟩
  by_cases e4 : k = 4
  · subst e4
    have HP := veil (call_any ps fc lB kB oB mB iB w W2 hw2 HFun num o s xs _ ⟨xa, xc, rfl⟩ HEach.out)
    unfold IsAns at HP
    clear HPar HFun HExpr HEach hsl hx hxs hcf hk7 hSz hS hwe hbel e1 e2 e3
    generalize exIs ps fc (.mk 4 num o s xs) = ans at *
    go_enter Tryz.func16, Tryz.ntmps16
    go_wp2_with (first | (rw [HWe.out]; clear HWe) | fail)
    refine HP.out.mono ?_
    rintro e w3 ⟨rfl, hb3⟩
    have HB3 := veil (HBel.out.trans (hb3.mono HBel.out.size))
    clear hb3
    go_wp2_with fail
    go_ret2
    exact ⟨rfl, HB3.out⟩
  have hk5 : k = 5 ∨ k = 6 ∨ k = 7 := by
    simp [isIn] at hk7
    omega
  have HE : Hid (exIs ps fc (.mk k num o s xs) = endIs k noSg (exsIs ps fc xs)) := by show _ = _; rw [exIs, if_neg e1, if_neg e2, if_neg e3, if_neg e4]
  have HEnd : Hid (endIs k noSg (exsIs ps fc xs) = if eachErr ps fc xs = 0 then finIs k noSg (eachIs ps fc xs) else badEx (eachErr ps fc xs)) := endIs_each
  have HEv := veil (HEach.out W2 hw2)
  have HMade : Hid (∀ W v, SlAt (fun b => b < W.heap.size) (StrAt W) 1 (eachIs ps fc xs) v → Calls Tryz.prog 37 #[.int .i64 k, v] W fun e w' => (∃ t ok, e = .returned (.tuple #[.string t, .bool ok]) ∧ finIs k noSg (eachIs ps fc xs) = fitR t ok) ∧ Below W.heap.size W w') := fun W v hv =>
    made_any _ k _ v W (fun _ h => h) hv hk5 (by rw [show (eachIs ps fc xs).length = xs.length from List.length_map ..]; exact hcf) (fun t ht => by
      obtain ⟨z, _, rfl⟩ := List.mem_map.1 ht
      exact hSz z)
  have k1 : (k == 1) = false := by simp; omega
  have k2 : (k == 2) = false := by simp; omega
  have k3 : (k == 3) = false := by simp; omega
  have k4 : (k == 4) = false := by simp; omega
  unfold Each at HEv
  clear HPar HFun HExpr HEach hsl hx hxs hcf hk7 hSz hS hwe hbel e1 e2 e3 e4 hk5
  generalize exIs ps fc (.mk k num o s xs) = ans at *
  generalize eachErr ps fc xs = ee at *
  generalize eachIs ps fc xs = is at *
  go_enter Tryz.func16, Tryz.ntmps16
  go_wp2_with (first | (rw [HWe.out]; clear HWe) | fail)
  refine HEv.out.mono ?_
  rintro e w3 ⟨ra, rn, rc, rfl, hrow, hb3⟩
  have f0 := (hb3.cell (p := ⟨W.heap.size + 1, 0, none⟩) l1).trans x0
  have HB3 := veil (HBel.out.trans (hb3.mono HBel.out.size))
  have HRow := veil hrow
  clear hb3 hrow HEv x0 x1 x2 x3 x4 n0 n1
  by_cases hee : ee = 0
  · subst hee
    have HM := veil (HMade.out w3 _ (HRow.out rfl))
    have HA : Hid (ans = finIs k noSg is) := by show _ = _; rw [HE.out, HEnd.out, if_pos rfl]
    clear HRow HEnd HE HMade
    go_wp2_with fail
    refine HM.out.mono ?_
    rintro e w4 ⟨⟨t, ok, rfl, hf⟩, hb4⟩
    have HF : Hid (ans = fitR t ok) := HA.out.trans hf
    have HB4 := veil (HB3.out.trans (hb4.mono HB3.out.size))
    clear hf hb4 HA
    go_wp2_with fail
    refine (fitting_any t ok _).mono ?_
    rintro e w5 ⟨rfl, rfl⟩
    go_wp2_with fail
    go_ret2
    exact ⟨by rw [HF.out]; rfl, HB4.out⟩
  · have HA : Hid (ans = badEx ee) := by show _ = _; rw [HE.out, HEnd.out, if_neg hee]
    have hee' : (ee != 0) = true := by simp [hee]
    clear HRow HEnd HE HMade hee
    go_wp2_with fail
    go_ret2
    exact ⟨by rw [HA.out]; rfl, HB3.out⟩

/-- names.expr, at every expression that may be. -/
theorem expr_any (S : Nat → Prop) (ps : List Kn) (fc : ByteArray → Fc) (lB kB oB mB iB : Nat) (w : World) (hS : ∀ b, S b → b < w.heap.size)
    (HPar : ∀ W s, Below w.heap.size w W → Calls Tryz.prog 27 #[.string s, .pointer (some ⟨lB, 0, none⟩), .pointer (some ⟨kB, 0, none⟩)] W fun e w' => e = .returned (.tuple #[.string (parIs ps s).1, .bool ((parIs ps s).2 == 0)]) ∧ Below W.heap.size W w')
    (HFun : ∀ W o s, Below w.heap.size w W → Calls Tryz.prog 30 #[.string o, .string s, .pointer (some ⟨oB, 0, none⟩), .pointer (some ⟨mB, 0, none⟩), .pointer (some ⟨iB, 0, none⟩)] W fun e w' => ∃ a n cap, e = .returned (.tuple #[.agg #[.string (funcVal (fc o) s).name, .slice a n cap, .string (funcVal (fc o) s).result], .bool (funcErr (fc o) s == 0)]) ∧ SgIs (fun b => b < w'.heap.size) w' (funcVal (fc o) s) (.agg #[.string (funcVal (fc o) s).name, .slice a n cap, .string (funcVal (fc o) s).result]) ∧ Below W.heap.size W w')
    (hSz : ∀ x, (exIs ps fc x).1.size ≤ 281474976710656) : ∀ (n d : Nat) (_ : 10 < d + n) (x : Ex) (v : Value) (W : World), Below w.heap.size w W → exFault x d = 0 → ExIs S w x v → Calls Tryz.prog 16 #[.agg #[.func (.func 27) #[] #[.pointer (some ⟨lB, 0, none⟩), .pointer (some ⟨kB, 0, none⟩)], .func (.func 30) #[] #[.pointer (some ⟨oB, 0, none⟩), .pointer (some ⟨mB, 0, none⟩), .pointer (some ⟨iB, 0, none⟩)]], v] W (IsAns ps fc x W)
  | 0, d, hd, x, v, W, _, hx, _ => by
    obtain ⟨k, n, o, s, xs⟩ := x
    have := (ex_parts hx).1
    omega
  | n + 1, d, hd, x, v, W, hW, hx, hv =>
    expr_step S ps fc lB kB oB mB iB w W hS hW d HPar HFun (fun x v W hW hx hv => expr_any S ps fc lB kB oB mB iB w hS HPar HFun hSz n (d + 1) (by omega) x v W hW hx hv) x v hx hv hSz

end Go.Proofs.YtcpnfkeoajeodaaGreatDoor

/- What body.One answers. -/
namespace Go.Proofs.YtcpnfkeoajeodaaGreatDoor
open Go.RowKit
set_option maxRecDepth 100000

/-- the params of a function, with their kinds. -/
def bodyPs (m : Mo) (l : List Im) (k : Nat) : List Kn := match m.funcs[k]? with
  | some f => knsOf f.params (oneSg m l k).params
  | none => []
/-- what the function's body is. -/
def bodyIs (m : Mo) (l : List Im) (own : Fc) (k : Nat) : ByteArray × Int := match m.funcs[k]? with
  | some f => exIs (bodyPs m l k) (faceOf m l own) f.body
  | none => badEx 6
def bodyCode (m : Mo) (l : List Im) (own : Fc) (k : Nat) : Int :=
  if oneCode m l k = 0 then (if (bodyIs m l own k).2 = 0 then (if sEq (bodyIs m l own k).1 (oneSg m l k).result = true then 0 else 8) else (bodyIs m l own k).2) else oneCode m l k

theorem bodyPs_at {m : Mo} {l : List Im} {k : Nat} (h : k < m.funcs.length) : bodyPs m l k = knsOf m.funcs[k].params (oneSg m l k).params := by
  unfold bodyPs
  rw [List.getElem?_eq_getElem h]
theorem bodyIs_at {m : Mo} {l : List Im} {own : Fc} {k : Nat} (h : k < m.funcs.length) : bodyIs m l own k = exIs (bodyPs m l k) (faceOf m l own) m.funcs[k].body := by
  unfold bodyIs
  rw [List.getElem?_eq_getElem h]
/-- where nothing is wrong, there are as many kinds as params. -/
theorem one_len {m : Mo} {l : List Im} {k : Nat} (h : k < m.funcs.length) (h0 : oneCode m l k = 0) : (oneSg m l k).params.length = m.funcs[k].params.length := by
  obtain ⟨h1, h2⟩ := oneCode_at (l := l) h
  rw [h1] at h0
  cases hh : hasFu (m.funcs.take k) m.funcs[k].name with
  | true => rw [hh, if_pos rfl] at h0; cases h0
  | false =>
    rw [hh, if_neg (by decide)] at h0 h2
    rw [h2, sigOf, if_pos h0]
    exact List.length_map ..
theorem one_sizes {m : Mo} {l : List Im} {k : Nat} (hz : ∀ i ∈ l, fcSmall i.face) (h : k < m.funcs.length) : ∀ t ∈ (oneSg m l k).params, t.size ≤ 281474976710656 := by
  obtain ⟨h1, h2⟩ := oneCode_at (l := l) h
  rw [h2]
  intro t ht
  split at ht
  · cases ht
  · unfold sigOf at ht
    split at ht
    · obtain ⟨p, _, rfl⟩ := List.mem_map.1 ht
      exact rhoR_le hz _ _
    · cases ht
theorem body_sizes {m : Mo} {l : List Im} {k : Nat} {fc : ByteArray → Fc} (hz : ∀ i ∈ l, fcSmall i.face) (h : k < m.funcs.length) : ∀ x, (exIs (bodyPs m l k) fc x).1.size ≤ 281474976710656 := by
  refine exIs_le (by omega) fun q hq => ?_
  rw [bodyPs_at h] at hq
  obtain ⟨z, hz', rfl⟩ := List.mem_map.1 hq
  exact one_sizes hz h _ (List.of_mem_zip hz').2

theorem fu_body {m : Mo} (h : moFault m = 0) : ∀ f ∈ m.funcs, exFault f.body 1 = 0 := by
  unfold moFault at h
  by_cases hc : 24 < wrap64 (wrap64 ((m.uses.length : Int) + m.types.length) + m.funcs.length)
  · rw [if_pos hc] at h; exact absurd h (by decide)
  · rw [if_neg hc] at h
    by_cases hu : firstBad useFault m.uses ≠ 0
    · rw [if_pos hu] at h; exact absurd h hu
    · rw [if_neg hu] at h
      by_cases ht : firstBad fdFault m.types ≠ 0
      · rw [if_pos ht] at h; exact absurd h ht
      · rw [if_neg ht] at h
        intro f hf
        obtain ⟨k, hk, rfl⟩ := List.getElem_of_mem hf
        have h2 := firstBad_all fuFault m.funcs h k hk
        unfold fuFault at h2
        by_cases h1 : identOk (m.funcs[k]).name = false ∨ noneOrIdent (m.funcs[k]).var = false
        · rw [if_pos h1] at h2; exact absurd h2 (by decide)
        · rw [if_neg h1] at h2
          by_cases h3 : 8 < (m.funcs[k]).params.length
          · rw [if_pos h3] at h2; exact absurd h2 (by decide)
          · rw [if_neg h3] at h2
            by_cases h4 : firstBad fdFault (m.funcs[k]).params ≠ 0
            · rw [if_pos h4] at h2; exact absurd h2 h4
            · rw [if_neg h4] at h2
              by_cases h5 : tyFault (m.funcs[k]).result 1 ≠ 0
              · rw [if_pos h5] at h2; exact absurd h2 h5
              · rw [if_neg h5] at h2; exact h2

set_option maxHeartbeats 1000000 in
theorem params_any (v u : Value) (w : World) (hv : ∃ a b c, v = .slice a b c) (hu : ∃ a b c, u = .slice a b c) :
    Calls Tryz.prog 14 #[v, u] w fun e w' => e = .returned (.func (.func 27) #[] #[.pointer (some ⟨w.heap.size, 0, none⟩), .pointer (some ⟨w.heap.size + 1, 0, none⟩)]) ∧ Below w.heap.size w w' ∧ w'.heap.size = w.heap.size + 2 ∧ w'.cell? ⟨w.heap.size, 0, none⟩ = some v ∧ w'.cell? ⟨w.heap.size + 1, 0, none⟩ = some u := by
  obtain ⟨a, b, c, rfl⟩ := hv
  obtain ⟨a2, b2, c2, rfl⟩ := hu
  go_enter Tryz.func14, Tryz.ntmps14
  go_wp2_with fail
  go_ret
  exact ⟨rfl, ((Below.refl _ _).alloc (Nat.le_refl _) _).alloc (by simp) _, by simp, by simp [go_sem], by simp [go_sem]⟩

set_option maxHeartbeats 1000000 in
theorem functions_any (u1 t1 f1 la o1 o4 : Option Addr) (u2 u3 t2 t3 f2 f3 ln lc o2 o3 o5 o6 : Nat) (w : World) :
    Calls Tryz.prog 15 #[.agg #[.slice u1 u2 u3, .slice t1 t2 t3, .slice f1 f2 f3], .slice la ln lc, .agg #[.slice o1 o2 o3, .slice o4 o5 o6]] w fun e w' => e = .returned (.func (.func 30) #[] #[.pointer (some ⟨w.heap.size + 2, 0, none⟩), .pointer (some ⟨w.heap.size, 0, none⟩), .pointer (some ⟨w.heap.size + 1, 0, none⟩)]) ∧ Below w.heap.size w w' ∧ w'.heap.size = w.heap.size + 3 ∧
      w'.cell? ⟨w.heap.size + 2, 0, none⟩ = some (.slice o1 o2 o3) ∧ w'.cell? ⟨w.heap.size + 2, 1, none⟩ = some (.slice o4 o5 o6) ∧ w'.cell? ⟨w.heap.size, 0, none⟩ = some (.slice u1 u2 u3) ∧ w'.cell? ⟨w.heap.size, 1, none⟩ = some (.slice t1 t2 t3) ∧ w'.cell? ⟨w.heap.size, 2, none⟩ = some (.slice f1 f2 f3) ∧ w'.cell? ⟨w.heap.size + 1, 0, none⟩ = some (.slice la ln lc) := by
  go_enter Tryz.func15, Tryz.ntmps15
  go_wp2_with fail
  go_ret
  exact ⟨rfl, (((Below.refl _ _).alloc (Nat.le_refl _) _).alloc (by simp) _).alloc (by simp; omega) _, by simp, by simp [go_sem], by simp [go_sem], by simp [go_sem], by simp [go_sem], by simp [go_sem], by simp [go_sem]⟩

/-- where the names of a body lie: in the box nB, with the boxes that their closures hold. -/
structure NamesAt (W5 W8 : World) (nB lB kB oB mB iB : Nat) (p q u t f lv o1 o2 : Value) : Prop where
  bel : Below W5.heap.size W5 W8
  n0 : W8.cell? ⟨nB, 0, none⟩ = some (.func (.func 27) #[] #[.pointer (some ⟨lB, 0, none⟩), .pointer (some ⟨kB, 0, none⟩)])
  n1 : W8.cell? ⟨nB, 1, none⟩ = some (.func (.func 30) #[] #[.pointer (some ⟨oB, 0, none⟩), .pointer (some ⟨mB, 0, none⟩), .pointer (some ⟨iB, 0, none⟩)])
  l0 : W8.cell? ⟨lB, 0, none⟩ = some p
  k0 : W8.cell? ⟨kB, 0, none⟩ = some q
  o0 : W8.cell? ⟨oB, 0, none⟩ = some o1
  o1 : W8.cell? ⟨oB, 1, none⟩ = some o2
  m0 : W8.cell? ⟨mB, 0, none⟩ = some u
  m1 : W8.cell? ⟨mB, 1, none⟩ = some t
  m2 : W8.cell? ⟨mB, 2, none⟩ = some f
  i0 : W8.cell? ⟨iB, 0, none⟩ = some lv

theorem names_expr (m : Mo) (l : List Im) (own : Fc) (ps : List Fd) (ks : List ByteArray) (x : Ex) {v p : Value} {W5 W8 : World} {nB lB kB oB mB iB : Nat} {u1 t1 f1 la o1 o4 xa : Option Addr} {u2 u3 t2 t3 f2 f3 ln lc o2 o3 o5 o6 xn xc : Nat}
    (hN : NamesAt W5 W8 nB lB kB oB mB iB p (.slice xa xn xc) (.slice u1 u2 u3) (.slice t1 t2 t3) (.slice f1 f2 f3) (.slice la ln lc) (.slice o1 o2 o3) (.slice o4 o5 o6))
    (hm : MoIs (fun b => b < W8.heap.size) W8 m (.agg #[.slice u1 u2 u3, .slice t1 t2 t3, .slice f1 f2 f3])) (hl : SlAt (fun b => b < W8.heap.size) (ImAt (fun b => b < W8.heap.size) W8) 4 l (.slice la ln lc)) (ho : FcIs (fun b => b < W8.heap.size) W8 own (.agg #[.slice o1 o2 o3, .slice o4 o5 o6])) (hps : SlAt (fun b => b < W8.heap.size) (FdAt (fun b => b < W8.heap.size) W8) 5 ps p) (hks : SlAt (fun b => b < W8.heap.size) (StrAt W8) 1 ks (.slice xa xn xc)) (hlen : ks.length = ps.length) (hx : ExIs (fun b => b < W8.heap.size) W8 x v)
    (hz : ∀ i ∈ l, fcSmall i.face) (hzo : fcSmall own) (hx0 : exFault x 1 = 0) (hSz : ∀ x, (exIs (knsOf ps ks) (faceOf m l own) x).1.size ≤ 281474976710656) :
    Calls Tryz.prog 16 #[.agg #[.func (.func 27) #[] #[.pointer (some ⟨lB, 0, none⟩), .pointer (some ⟨kB, 0, none⟩)], .func (.func 30) #[] #[.pointer (some ⟨oB, 0, none⟩), .pointer (some ⟨mB, 0, none⟩), .pointer (some ⟨iB, 0, none⟩)]], v] W8 (IsAns (knsOf ps ks) (faceOf m l own) x W8) := by
  have hK : ∀ W, Below W8.heap.size W8 W → Keeps (fun b => b < W8.heap.size) (fun b => b < W8.heap.size) W8 W := fun W hW => Keeps.below hW (fun _ h => h)
  have hC : ∀ W, Below W8.heap.size W8 W → ∀ (a : Addr) y, W8.cell? a = some y → W.cell? a = some y := fun W hW a y h => (hW.cell (World.block_lt_of_cell? _ _ h)).trans h
  have hL : ∀ W, Below W8.heap.size W8 W → ∀ b, b < W8.heap.size → b < W.heap.size := fun W hW b hb => Nat.lt_of_lt_of_le hb hW.size
  refine expr_any (fun b => b < W8.heap.size) (knsOf ps ks) (faceOf m l own) lB kB oB mB iB W8 (fun _ h => h) (fun W s hW => ?_) (fun W o s hW => ?_) hSz 10 1 (by omega) x v W8 (Below.refl _ _) hx0 hx
  · refine (par_any (fun b => b < W8.heap.size) ps ks s _ _ lB kB W (hL W hW) (fdSl_keep (hK W hW) hps) (strSl_keep (hK W hW) hks) hlen (hC W hW _ _ hN.l0) (hC W hW _ _ hN.k0)).mono ?_
    rintro e w' ⟨rfl, hb⟩
    exact ⟨rfl, hb⟩
  · exact fun_any (fun b => b < W8.heap.size) m l own o s u1 t1 f1 la o1 o4 u2 u3 t2 t3 f2 f3 ln lc o2 o3 o5 o6 oB mB iB W (hL W hW) (hm.keep (hK W hW)) (imSl_keep (hK W hW) hl) (ho.keep (hK W hW)) hz hzo (hC W hW _ _ hN.o0) (hC W hW _ _ hN.o1) (hC W hW _ _ hN.m0) (hC W hW _ _ hN.m1) (hC W hW _ _ hN.m2) (hC W hW _ _ hN.i0)

/-- what the region in which the names are made loads. -/
def OneS (F G M : Nat) (p q u t f o1 o2 : Value) (wr W : World) : Prop := Below wr.heap.size wr W ∧ W.cell? ⟨F, 2, none⟩ = some p ∧ W.cell? ⟨G, 1, none⟩ = some q ∧ W.cell? ⟨M, 0, none⟩ = some u ∧ W.cell? ⟨M, 1, none⟩ = some t ∧ W.cell? ⟨M, 2, none⟩ = some f ∧ W.cell? ⟨M + 1, 0, none⟩ = some o1 ∧ W.cell? ⟨M + 1, 1, none⟩ = some o2
theorem OneS.below {F G M : Nat} {p q u t f o1 o2 : Value} {wr W : World} (h : OneS F G M p q u t f o1 o2 wr W) : Below wr.heap.size wr W := h.1
theorem OneS.later {F G M : Nat} {p q u t f o1 o2 : Value} {wr W W' : World} (h : OneS F G M p q u t f o1 o2 wr W) (hb : Below W.heap.size W W') : OneS F G M p q u t f o1 o2 wr W' := by
  obtain ⟨h0, h1, h2, h3, h4, h5, h6, h7⟩ := h
  have hk : ∀ (a : Addr) v, W.cell? a = some v → W'.cell? a = some v := fun a v hv => (hb.cell (World.block_lt_of_cell? _ _ hv)).trans hv
  exact ⟨h0.trans (hb.mono h0.size), hk _ _ h1, hk _ _ h2, hk _ _ h3, hk _ _ h4, hk _ _ h5, hk _ _ h6, hk _ _ h7⟩
theorem OneS.box {F G M : Nat} {p q u t f o1 o2 : Value} {wr W : World} {x : Obj} (h : OneS F G M p q u t f o1 o2 wr W) : OneS F G M p q u t f o1 o2 wr (W.alloc x) := h.later ((Below.refl _ _).alloc (Nat.le_refl _) _)
theorem OneS.swap {F G M : Nat} {p q u t f o1 o2 : Value} {wr W : World} {x y : Obj} (h : OneS F G M p q u t f o1 o2 wr (W.alloc x)) (hl : wr.heap.size ≤ W.heap.size) (hF : F < wr.heap.size) (hG : G < wr.heap.size) (hM : M + 1 < wr.heap.size) : OneS F G M p q u t f o1 o2 wr (W.alloc y) := by
  obtain ⟨h0, h1, h2, h3, h4, h5, h6, h7⟩ := h
  have e : ∀ c, c < wr.heap.size → (W.alloc y).heap[c]? = (W.alloc x).heap[c]? := fun c hc => by
    rw [heap_alloc_old _ _ (by omega), heap_alloc_old _ _ (by omega)]
  have hM0 : M < wr.heap.size := by omega
  refine ⟨⟨h0.os, h0.tape, h0.output, by simp; omega, fun c hc => (e c hc).trans (h0.block c hc)⟩, ?_, ?_, ?_, ?_, ?_, ?_, ?_⟩
  · rw [World.cell?_of_block (e F hF)]; exact h1
  · rw [World.cell?_of_block (e G hG)]; exact h2
  · rw [World.cell?_of_block (e M hM0)]; exact h3
  · rw [World.cell?_of_block (e M hM0)]; exact h4
  · rw [World.cell?_of_block (e M hM0)]; exact h5
  · rw [World.cell?_of_block (e (M + 1) hM)]; exact h6
  · rw [World.cell?_of_block (e (M + 1) hM)]; exact h7
theorem OneS.sets {F G M g : Nat} {p q u t f o1 o2 a b : Value} {wr W : World} (h : OneS F G M p q u t f o1 o2 wr W) (hg : wr.heap.size ≤ g) (hF : F < wr.heap.size) (hG : G < wr.heap.size) (hM : M + 1 < wr.heap.size) : OneS F G M p q u t f o1 o2 wr ((W.setCell ⟨g, 0, none⟩ a).setCell ⟨g, 1, none⟩ b) := by
  obtain ⟨h0, h1, h2, h3, h4, h5, h6, h7⟩ := h
  have hk : ∀ (x : Addr) v, x.block < wr.heap.size → W.cell? x = some v → ((W.setCell ⟨g, 0, none⟩ a).setCell ⟨g, 1, none⟩ b).cell? x = some v := fun x v hx hv => by
    rw [World.cell?_setCell_far _ _ _ _ (by show g ≠ x.block; omega), World.cell?_setCell_far _ _ _ _ (by show g ≠ x.block; omega)]; exact hv
  exact ⟨(h0.setCell hg _).setCell hg _, hk _ _ hF h1, hk _ _ hG h2, hk _ _ (by show M < _; omega) h3, hk _ _ (by show M < _; omega) h4, hk _ _ (by show M < _; omega) h5, hk _ _ hM h6, hk _ _ hM h7⟩

set_option maxRecDepth 100000 in
set_option maxHeartbeats 8000000 in
theorem bodyOne_any (S : Nat → Prop) (m : Mo) (l : List Im) (own : Fc) (k : Nat) (vm vl vo : Value) (w : World) (hS : ∀ b, S b → b < w.heap.size) (hm : MoIs S w m vm) (hl : SlAt S (ImAt S w) 4 l vl) (ho : FcIs S w own vo) (hz : ∀ i ∈ l, fcSmall i.face) (hzo : fcSmall own) (hty : ∀ f ∈ m.types, tyFault f.is 1 = 0) (hn : m.types.length ≤ reachBytes) (hfu : ∀ f ∈ m.funcs, FuMay f) (hfb : ∀ f ∈ m.funcs, exFault f.body 1 = 0) (hk : k < m.funcs.length) :
    Calls Tryz.prog 6 #[vm, vl, vo, .int .i64 (k : Nat)] w fun e w' => e = .returned (.int .i64 (bodyCode m l own k)) ∧ Below w.heap.size w w' := by
  have HOne : Hid (∀ W, Below w.heap.size w W → Calls Tryz.prog 13 #[vm, vl, .int .i64 (k : Nat)] W (Signs W (oneSg m l k) (oneCode m l k))) := fun W hW =>
    one_any S m l k vm vl W (fun b hb => Nat.lt_of_lt_of_le (hS b hb) hW.size) (hm.keep (Keeps.below hW hS)) (imSl_keep (Keeps.below hW hS) hl) hz hty hn hfu hk
  have hm' := hm
  obtain ⟨vu, vty, vf, rfl, hu, hts, hf⟩ := hm'
  have hlen := hf.len
  unfold maxLen at hlen
  obtain ⟨u1, u2, u3, rfl⟩ := hu.slice
  obtain ⟨t1, t2, t3, rfl⟩ := hts.slice
  obtain ⟨f1, f3, rfl⟩ := hf.is
  obtain ⟨la, ln, lc, rfl⟩ := hl.slice
  obtain ⟨o1, o2, o3, o4, o5, o6, rfl⟩ : ∃ a b c d e f, vo = .agg #[.slice a b c, .slice d e f] := by
    obtain ⟨vt, vf, rfl, h1, h2⟩ := ho
    obtain ⟨a, b, c, rfl⟩ := h1.slice
    obtain ⟨d, e, f, rfl⟩ := h2.slice
    exact ⟨_, _, _, _, _, _, rfl⟩
  obtain ⟨_, b, off, rfl, hb, hat⟩ := hf.at hk
  obtain ⟨vp1, vp2, vp3, kd, fo, na, p1, p2, p3, ke, ne, fe, se, ve1, ve2, ve3, a0, a1, a2, a3, a4, a5, a6, a7, a8, a9, a10, a11, hsz0, hsz1, hps, hcs, hce⟩ := fu_cells hat
  have hbw := hS b hb
  obtain ⟨W2, hwe, hs2, hbel, m0, m1, m2, n0, n1⟩ : ∃ W2, (w.alloc (.cells #[.slice u1 u2 u3, .slice t1 t2 t3, .slice (some ⟨b, off, none⟩) m.funcs.length f3] 26)).alloc (.cells #[.slice o1 o2 o3, .slice o4 o5 o6] 31) = W2 ∧ W2.heap.size = w.heap.size + 2 ∧ Below w.heap.size w W2 ∧
      W2.cell? ⟨w.heap.size, 0, none⟩ = some (.slice u1 u2 u3) ∧ W2.cell? ⟨w.heap.size, 1, none⟩ = some (.slice t1 t2 t3) ∧ W2.cell? ⟨w.heap.size, 2, none⟩ = some (.slice (some ⟨b, off, none⟩) m.funcs.length f3) ∧ W2.cell? ⟨w.heap.size + 1, 0, none⟩ = some (.slice o1 o2 o3) ∧ W2.cell? ⟨w.heap.size + 1, 1, none⟩ = some (.slice o4 o5 o6) :=
    ⟨_, rfl, by simp, ((Below.refl _ _).alloc (Nat.le_refl _) _).alloc (by simp) _, by simp [go_sem], by simp [go_sem], by simp [go_sem], by simp [go_sem], by simp [go_sem]⟩
  have HWe := veil hwe
  have HBel := veil hbel
  have HOne2 := veil (HOne.out W2 hbel)
  have HBox : Hid (∀ W, Below W2.heap.size W2 W → (W.cell? ⟨w.heap.size, 0, none⟩ = some (.slice u1 u2 u3) ∧ W.cell? ⟨w.heap.size, 1, none⟩ = some (.slice t1 t2 t3) ∧ W.cell? ⟨w.heap.size, 2, none⟩ = some (.slice (some ⟨b, off, none⟩) m.funcs.length f3) ∧ W.cell? ⟨w.heap.size + 1, 0, none⟩ = some (.slice o1 o2 o3) ∧ W.cell? ⟨w.heap.size + 1, 1, none⟩ = some (.slice o4 o5 o6)) ∧ Below w.heap.size w W) := fun W h => by
    have l0 : w.heap.size < W2.heap.size := by omega
    have l1 : w.heap.size + 1 < W2.heap.size := by omega
    exact ⟨⟨(h.cell (p := ⟨w.heap.size, 0, none⟩) l0).trans m0, (h.cell (p := ⟨w.heap.size, 1, none⟩) l0).trans m1, (h.cell (p := ⟨w.heap.size, 2, none⟩) l0).trans m2, (h.cell (p := ⟨w.heap.size + 1, 0, none⟩) l1).trans n0, (h.cell (p := ⟨w.heap.size + 1, 1, none⟩) l1).trans n1⟩, hbel.trans (h.mono hbel.size)⟩
  have HA : Hid (∀ W, Below w.heap.size w W → W.cell? ⟨b, off + k * 12, none⟩ = some (.string m.funcs[k].name) ∧ W.cell? ⟨b, off + k * 12 + 1, none⟩ = some (.string m.funcs[k].var) ∧ W.cell? ⟨b, off + k * 12 + 2, none⟩ = some (.slice vp1 vp2 vp3) ∧ W.cell? ⟨b, off + k * 12 + 3, none⟩ = some (.int .i64 kd) ∧ W.cell? ⟨b, off + k * 12 + 4, none⟩ = some (.string fo) ∧ W.cell? ⟨b, off + k * 12 + 5, none⟩ = some (.string na) ∧ W.cell? ⟨b, off + k * 12 + 6, none⟩ = some (.slice p1 p2 p3) ∧ W.cell? ⟨b, off + k * 12 + 7, none⟩ = some (.int .i64 ke) ∧ W.cell? ⟨b, off + k * 12 + 8, none⟩ = some (.int .i64 ne) ∧ W.cell? ⟨b, off + k * 12 + 9, none⟩ = some (.string fe) ∧ W.cell? ⟨b, off + k * 12 + 10, none⟩ = some (.string se) ∧ W.cell? ⟨b, off + k * 12 + 11, none⟩ = some (.slice ve1 ve2 ve3)) := fun W h =>
    ⟨(h.cell (p := ⟨b, _, none⟩) hbw).trans a0, (h.cell (p := ⟨b, _, none⟩) hbw).trans a1, (h.cell (p := ⟨b, _, none⟩) hbw).trans a2, (h.cell (p := ⟨b, _, none⟩) hbw).trans a3, (h.cell (p := ⟨b, _, none⟩) hbw).trans a4, (h.cell (p := ⟨b, _, none⟩) hbw).trans a5, (h.cell (p := ⟨b, _, none⟩) hbw).trans a6, (h.cell (p := ⟨b, _, none⟩) hbw).trans a7, (h.cell (p := ⟨b, _, none⟩) hbw).trans a8, (h.cell (p := ⟨b, _, none⟩) hbw).trans a9, (h.cell (p := ⟨b, _, none⟩) hbw).trans a10, (h.cell (p := ⟨b, _, none⟩) hbw).trans a11⟩
  have HCode : Hid (bodyCode m l own k = if oneCode m l k = 0 then (if (bodyIs m l own k).2 = 0 then (if sEq (bodyIs m l own k).1 (oneSg m l k).result = true then 0 else 8) else (bodyIs m l own k).2) else oneCode m l k) := rfl
  have HLen := veil (one_len (l := l) hk)
  have HSz := veil (body_sizes (fc := faceOf m l own) hz hk)
  have HBodyF := veil (hfb _ (List.getElem_mem hk))
  have HIsAt := veil (bodyIs_at (l := l) (own := own) hk)
  have HPsAt := veil (bodyPs_at (l := l) hk)
  have HMem : Hid (∀ W, Below w.heap.size w W → MoIs (fun b => b < W.heap.size) W m (.agg #[.slice u1 u2 u3, .slice t1 t2 t3, .slice (some ⟨b, off, none⟩) m.funcs.length f3]) ∧ SlAt (fun b => b < W.heap.size) (ImAt (fun b => b < W.heap.size) W) 4 l (.slice la ln lc) ∧ FcIs (fun b => b < W.heap.size) W own (.agg #[.slice o1 o2 o3, .slice o4 o5 o6]) ∧ SlAt (fun b => b < W.heap.size) (FdAt (fun b => b < W.heap.size) W) 5 m.funcs[k].params (.slice vp1 vp2 vp3) ∧ ExIs (fun b => b < W.heap.size) W m.funcs[k].body (.agg #[.int .i64 ke, .int .i64 ne, .string fe, .string se, .slice ve1 ve2 ve3])) := fun W hW => by
    have hk : Keeps S (fun b => b < W.heap.size) w W := ⟨fun b hb => hW.block b (hS b hb), fun b hb => Nat.lt_of_lt_of_le (hS b hb) hW.size⟩
    exact ⟨hm.keep hk, imSl_keep hk hl, ho.keep hk, fdSl_keep hk hps, ⟨_, _, _, _, _, rfl, hce.keep hk⟩⟩
  have hk0 : (0 : Int) ≤ (k : Int) := by omega
  have hk1 : (k : Int) < (m.funcs.length : Int) := by omega
  clear HOne hwe hbel hs2 a0 a1 a2 a3 a4 a5 a6 a7 a8 a9 a10 a11 hu hts hf hat hps hcs hce hsz0 hsz1 hm hl ho hty hn hfu hfb
  generalize bodyCode m l own k = bc at *
  generalize oneCode m l k = oc at *
  unfold Signs at HOne2
  generalize hog : oneSg m l k = og at *
  generalize hsn : og.name = sn at *
  generalize hsr : og.result = sr at *
  have HSn := veil hsn
  have HSr := veil hsr
  clear hsn hsr hog
  go_enter Tryz.func6, Tryz.ntmps6
  go_wp2_with (first | (rw [HWe.out]; clear HWe) | fail)
  refine HOne2.out.mono ?_
  rintro e w3 ⟨xa, xn, xc, rfl, hsg, hb3⟩
  obtain ⟨W4, HW4, hb4, hs4, e0, e1, e2⟩ : ∃ W4, Hid (w3.alloc (.cells #[.string sn, .slice xa xn xc, .string sr] 44) = W4) ∧ Below w3.heap.size w3 W4 ∧ W4.heap.size = w3.heap.size + 1 ∧ W4.cell? ⟨w3.heap.size, 0, none⟩ = some (.string sn) ∧ W4.cell? ⟨w3.heap.size, 1, none⟩ = some (.slice xa xn xc) ∧ W4.cell? ⟨w3.heap.size, 2, none⟩ = some (.string sr) :=
    ⟨_, rfl, (Below.refl _ _).alloc (Nat.le_refl _) _, by simp, by simp [go_sem], by simp [go_sem], by simp [go_sem]⟩
  clear m0 m1 m2 n0 n1
  obtain ⟨⟨m0, m1, m2, n0, n1⟩, hbw4⟩ := HBox.out W4 (hb3.trans (hb4.mono hb3.size))
  obtain ⟨hgn, _, hgp⟩ := sgIs_slice (g := og) (by rw [HSn.out, HSr.out]; exact hsg)
  have HGp : Hid (∀ W, Below W4.heap.size W4 W → SlAt (fun b => b < W.heap.size) (StrAt W) 1 og.params (.slice xa xn xc)) := fun W hW => strSl_keep ⟨fun b hb => (hW.block b (Nat.lt_of_lt_of_le hb.2 hb4.size)).trans (hb4.block b hb.2), fun b hb => Nat.lt_of_lt_of_le (Nat.lt_of_lt_of_le hb.2 hb4.size) hW.size⟩ hgp
  have HGn := veil hgn
  have HB4 := veil hbw4
  have h34 : w3.heap.size < W4.heap.size := by omega
  have HBox4 : Hid (∀ W, Below W4.heap.size W4 W → (W.cell? ⟨w.heap.size, 0, none⟩ = some (.slice u1 u2 u3) ∧ W.cell? ⟨w.heap.size, 1, none⟩ = some (.slice t1 t2 t3) ∧ W.cell? ⟨w.heap.size, 2, none⟩ = some (.slice (some ⟨b, off, none⟩) m.funcs.length f3) ∧ W.cell? ⟨w.heap.size + 1, 0, none⟩ = some (.slice o1 o2 o3) ∧ W.cell? ⟨w.heap.size + 1, 1, none⟩ = some (.slice o4 o5 o6)) ∧ Below w.heap.size w W ∧ W.cell? ⟨w3.heap.size, 1, none⟩ = some (.slice xa xn xc) ∧ W.cell? ⟨w3.heap.size, 2, none⟩ = some (.string sr)) := fun W hW => by
    obtain ⟨h1, h2⟩ := HBox.out W ((hb3.trans (hb4.mono hb3.size)).trans (hW.mono (hb3.trans (hb4.mono hb3.size)).size))
    exact ⟨h1, h2, (hW.cell (p := ⟨w3.heap.size, 1, none⟩) h34).trans e1, (hW.cell (p := ⟨w3.heap.size, 2, none⟩) h34).trans e2⟩
  clear hsg hb3 hb4 hbw4 hgp HBox HOne2 hs4 hgn
  by_cases hc : oc = 0
  · subst hc
    have HLk := veil (HLen.out rfl)
    have HCode2 : Hid (bc = if (bodyIs m l own k).2 = 0 then (if sEq (bodyIs m l own k).1 sr = true then 0 else 8) else (bodyIs m l own k).2) := by show _ = _; rw [HCode.out, if_pos rfl]
    clear HLen HCode
    obtain ⟨d0, d1, d2, d3, d4, d5, d6, d7, d8, d9, d10, d11⟩ := HA.out _ HB4.out
    generalize m.funcs[k].name = fnm at *
    generalize m.funcs[k].var = fvr at *
    obtain ⟨W5, HW5, hb5, hs5, q2, q7, q8, q9, q10, q11⟩ : ∃ W5, Hid (W4.alloc (.cells #[.string fnm, .string fvr, .slice vp1 vp2 vp3, .int .i64 kd, .string fo, .string na, .slice p1 p2 p3, .int .i64 ke, .int .i64 ne, .string fe, .string se, .slice ve1 ve2 ve3] 54) = W5) ∧ Below W4.heap.size W4 W5 ∧ W5.heap.size = W4.heap.size + 1 ∧ W5.cell? ⟨W4.heap.size, 2, none⟩ = some (.slice vp1 vp2 vp3) ∧ W5.cell? ⟨W4.heap.size, 7, none⟩ = some (.int .i64 ke) ∧ W5.cell? ⟨W4.heap.size, 8, none⟩ = some (.int .i64 ne) ∧ W5.cell? ⟨W4.heap.size, 9, none⟩ = some (.string fe) ∧ W5.cell? ⟨W4.heap.size, 10, none⟩ = some (.string se) ∧ W5.cell? ⟨W4.heap.size, 11, none⟩ = some (.slice ve1 ve2 ve3) :=
      ⟨_, rfl, (Below.refl _ _).alloc (Nat.le_refl _) _, by simp, by simp [go_sem], by simp [go_sem], by simp [go_sem], by simp [go_sem], by simp [go_sem], by simp [go_sem]⟩
    have h45 : W4.heap.size < W5.heap.size := by omega
    have HP := veil (fun W => params_any (.slice vp1 vp2 vp3) (.slice xa xn xc) W ⟨_, _, _, rfl⟩ ⟨_, _, _, rfl⟩)
    have HQ := veil (fun W => functions_any u1 t1 (some ⟨b, off, none⟩) la o1 o4 u2 u3 t2 t3 m.funcs.length f3 ln lc o2 o3 o5 o6 W)
    go_wp2_with (first | (rw [HW4.out]; clear HW4; clear m0 m1 m2 n0 n1; obtain ⟨⟨m0, m1, m2, n0, n1⟩, _, e1, e2⟩ := HBox4.out _ (Below.refl _ _)) | (rw [HW5.out]; clear HW5 m0 m1 m2 n0 n1 e0 e1 e2 d0 d1 d2 d3 d4 d5 d6 d7 d8 d9 d10 d11; obtain ⟨⟨m0, m1, m2, n0, n1⟩, _, e1, e2⟩ := HBox4.out _ hb5) | fail)
    have HPa : Hid (∀ (W : World) (x y : Value), Calls Tryz.prog 14 #[.slice vp1 vp2 vp3, .slice xa xn xc] (W.alloc (.cells #[x, y] 60)).drew fun e w' => e = .returned (.func (.func 27) #[] #[.pointer (some ⟨W.heap.size + 1, 0, none⟩), .pointer (some ⟨W.heap.size + 2, 0, none⟩)]) ∧ Below (W.alloc (.cells #[x, y] 60)).drew.heap.size (W.alloc (.cells #[x, y] 60)).drew w' ∧ (w'.heap.size = W.heap.size + 3 ∧ w'.cell? ⟨W.heap.size + 1, 0, none⟩ = some (.slice vp1 vp2 vp3) ∧ w'.cell? ⟨W.heap.size + 2, 0, none⟩ = some (.slice xa xn xc)) ∧ w'.cell? ⟨W.heap.size, 0, none⟩ = some x ∧ w'.cell? ⟨W.heap.size, 1, none⟩ = some y ∧ w'.frozen? ⟨W.heap.size, 0, none⟩ = false ∧ w'.frozen? ⟨W.heap.size, 1, none⟩ = false) := fun W x y => by
      have hsz : (W.alloc (.cells #[x, y] 60)).drew.heap.size = W.heap.size + 1 := by show (W.alloc _).heap.size = _; simp
      refine (HP.out _).mono ?_
      rintro e w' ⟨rfl, hb, hs, h0, h1⟩
      rw [hsz] at hs h0 h1 ⊢
      exact ⟨rfl, by rw [← hsz]; exact hb, ⟨hs, h0, h1⟩, box_later (W := W) (t := 60) ⟨hb.os, hb.tape, hb.output, hb.size, hb.block⟩⟩
    have HQa : Hid (∀ (W : World) (x y : Value), Calls Tryz.prog 15 #[.agg #[.slice u1 u2 u3, .slice t1 t2 t3, .slice (some ⟨b, off, none⟩) m.funcs.length f3], .slice la ln lc, .agg #[.slice o1 o2 o3, .slice o4 o5 o6]] (W.alloc (.cells #[x, y] 60)) fun e w' => e = .returned (.func (.func 30) #[] #[.pointer (some ⟨W.heap.size + 1 + 2, 0, none⟩), .pointer (some ⟨W.heap.size + 1, 0, none⟩), .pointer (some ⟨W.heap.size + 1 + 1, 0, none⟩)]) ∧ Below (W.alloc (.cells #[x, y] 60)).heap.size (W.alloc (.cells #[x, y] 60)) w' ∧ (w'.heap.size = W.heap.size + 1 + 3 ∧
        w'.cell? ⟨W.heap.size + 1 + 2, 0, none⟩ = some (.slice o1 o2 o3) ∧ w'.cell? ⟨W.heap.size + 1 + 2, 1, none⟩ = some (.slice o4 o5 o6) ∧ w'.cell? ⟨W.heap.size + 1, 0, none⟩ = some (.slice u1 u2 u3) ∧ w'.cell? ⟨W.heap.size + 1, 1, none⟩ = some (.slice t1 t2 t3) ∧ w'.cell? ⟨W.heap.size + 1, 2, none⟩ = some (.slice (some ⟨b, off, none⟩) m.funcs.length f3) ∧ w'.cell? ⟨W.heap.size + 1 + 1, 0, none⟩ = some (.slice la ln lc)) ∧ w'.cell? ⟨W.heap.size, 0, none⟩ = some x ∧ w'.cell? ⟨W.heap.size, 1, none⟩ = some y ∧ w'.frozen? ⟨W.heap.size, 0, none⟩ = false ∧ w'.frozen? ⟨W.heap.size, 1, none⟩ = false) := fun W x y => by
      have hsz : (W.alloc (.cells #[x, y] 60)).heap.size = W.heap.size + 1 := by simp
      refine (HQ.out _).mono ?_
      rintro e w' ⟨rfl, hb, hs, h0, h1, h2, h3, h4, h5⟩
      rw [hsz] at hs h0 h1 h2 h3 h4 h5 ⊢
      exact ⟨rfl, by rw [← hsz]; exact hb, ⟨hs, h0, h1, h2, h3, h4, h5⟩, box_later (W := W) (t := 60) ⟨hb.os, hb.tape, hb.output, hb.size, hb.block⟩⟩
    have HK0 : Hid (OneS W4.heap.size w3.heap.size w.heap.size (.slice vp1 vp2 vp3) (.slice xa xn xc) (.slice u1 u2 u3) (.slice t1 t2 t3) (.slice (some ⟨b, off, none⟩) m.funcs.length f3) (.slice o1 o2 o3) (.slice o4 o5 o6) W5 W5.drew) := ⟨(Below.refl _ _).drew, q2, e1, m0, m1, m2, n0, n1⟩
    have HB5 := veil hb5
    have HB45 := veil (HB4.out.trans (hb5.mono HB4.out.size))
    clear hs5 hb5
    have h3w : w3.heap.size < W5.heap.size := by omega
    have hwm : w.heap.size + 1 < W5.heap.size := World.block_lt_of_cell? _ _ n0
    go_region_held3 (fun W => Below W5.heap.size W5 W ∧ W.cell? ⟨W4.heap.size, 2, none⟩ = some (.slice vp1 vp2 vp3) ∧ W.cell? ⟨w3.heap.size, 1, none⟩ = some (.slice xa xn xc) ∧ W.cell? ⟨w.heap.size, 0, none⟩ = some (.slice u1 u2 u3) ∧ W.cell? ⟨w.heap.size, 1, none⟩ = some (.slice t1 t2 t3) ∧ W.cell? ⟨w.heap.size, 2, none⟩ = some (.slice (some ⟨b, off, none⟩) m.funcs.length f3) ∧ W.cell? ⟨w.heap.size + 1, 0, none⟩ = some (.slice o1 o2 o3) ∧ W.cell? ⟨w.heap.size + 1, 1, none⟩ = some (.slice o4 o5 o6)) (first | exact HK0.out | exact OneS.later (by assumption) (by assumption) | exact OneS.box (by assumption) | exact OneS.swap (by assumption) (by assumption) (by assumption) (by assumption) (by assumption) | exact OneS.sets (by assumption) (by first | exact Nat.le_refl _ | assumption) (by assumption) (by assumption) (by assumption))
      (first
        | (go_at_call 14; refine (HPa.out _ _ _).mono ?_; rintro e w6 ⟨rfl, hb6, hx6, g0, g1, g2, g3⟩; have hl6 : W5.heap.size ≤ w6.heap.size := Nat.le_trans (OneS.below (by assumption)).size hb6.size; have HX := veil hx6; clear hx6)
        | (go_at_call 14; refine (HP.out _).mono ?_; rintro e w6 ⟨rfl, hb6, hx6⟩; have hl6 : W5.heap.size ≤ w6.heap.size := Nat.le_trans (OneS.below (by assumption)).size hb6.size; have HX := veil hx6; clear hx6)
        | (go_at_call 15; refine (HQa.out _ _ _).mono ?_; rintro e w7 ⟨rfl, hb7, hy7, g4, g5, g6, g7⟩; have hl7 : W5.heap.size ≤ w7.heap.size := Nat.le_trans (OneS.below (by assumption)).size hb7.size; have HY := veil hy7; clear hy7)
        | (go_at_call 15; refine (HQ.out _).mono ?_; rintro e w7 ⟨rfl, hb7, hy7⟩; have hl7 : W5.heap.size ≤ w7.heap.size := Nat.le_trans (OneS.below (by assumption)).size hb7.size; have HY := veil hy7; clear hy7; (try have g4 := (hb7.cell (World.block_lt_of_cell? _ _ g0)).trans g0); (try have g5 := (hb7.cell (World.block_lt_of_cell? _ _ g1)).trans g1); (try have g6 := (hb7.frozen (World.block_lt_of_cell? _ _ g0)).trans g2); (try have g7 := (hb7.frozen (World.block_lt_of_cell? _ _ g1)).trans g3)))
    · rename_i hHeld
      have hbW := hHeld.1
      clear hHeld
      obtain ⟨W8, HW8, hN⟩ : ∃ W8, Hid (w7.alloc (.cells #[.func (.func 27) #[] #[.pointer (some ⟨W5.heap.size, 0, none⟩), .pointer (some ⟨W5.heap.size + 1, 0, none⟩)], .func (.func 30) #[] #[.pointer (some ⟨w6.heap.size + 2, 0, none⟩), .pointer (some ⟨w6.heap.size, 0, none⟩), .pointer (some ⟨w6.heap.size + 1, 0, none⟩)]] 60) = W8) ∧ NamesAt W5 W8 (w7.heap.size) (W5.heap.size) (W5.heap.size + 1) (w6.heap.size + 2) (w6.heap.size) (w6.heap.size + 1) (.slice vp1 vp2 vp3) (.slice xa xn xc) (.slice u1 u2 u3) (.slice t1 t2 t3) (.slice (some ⟨b, off, none⟩) m.funcs.length f3) (.slice la ln lc) (.slice o1 o2 o3) (.slice o4 o5 o6) := by
        obtain ⟨hx0, x0, x1⟩ := HX.out
        obtain ⟨hy0, y0, y1, y2, y3, y4, y5⟩ := HY.out
        have hk7 : ∀ (a : Addr) y, w7.cell? a = some y → (w7.alloc (.cells #[.func (.func 27) #[] #[.pointer (some ⟨W5.heap.size, 0, none⟩), .pointer (some ⟨W5.heap.size + 1, 0, none⟩)], .func (.func 30) #[] #[.pointer (some ⟨w6.heap.size + 2, 0, none⟩), .pointer (some ⟨w6.heap.size, 0, none⟩), .pointer (some ⟨w6.heap.size + 1, 0, none⟩)]] 60)).cell? a = some y := fun a y h => (((Below.refl w7.heap.size w7).alloc (Nat.le_refl _) _).cell (World.block_lt_of_cell? _ _ h)).trans h
        have hk6 : ∀ (a : Addr) y, w6.cell? a = some y → (w7.alloc (.cells #[.func (.func 27) #[] #[.pointer (some ⟨W5.heap.size, 0, none⟩), .pointer (some ⟨W5.heap.size + 1, 0, none⟩)], .func (.func 30) #[] #[.pointer (some ⟨w6.heap.size + 2, 0, none⟩), .pointer (some ⟨w6.heap.size, 0, none⟩), .pointer (some ⟨w6.heap.size + 1, 0, none⟩)]] 60)).cell? a = some y := fun a y h => hk7 _ _ ((hb7.cell (World.block_lt_of_cell? _ _ h)).trans h)
        exact ⟨_, rfl, hbW, by simp [go_sem], by simp [go_sem], hk6 _ _ x0, hk6 _ _ x1, hk7 _ _ y0, hk7 _ _ y1, hk7 _ _ y2, hk7 _ _ y3, hk7 _ _ y4, hk7 _ _ y5⟩
      have HEx : Hid (Calls Tryz.prog 16 #[.agg #[.func (.func 27) #[] #[.pointer (some ⟨W5.heap.size, 0, none⟩), .pointer (some ⟨W5.heap.size + 1, 0, none⟩)], .func (.func 30) #[] #[.pointer (some ⟨w6.heap.size + 2, 0, none⟩), .pointer (some ⟨w6.heap.size, 0, none⟩), .pointer (some ⟨w6.heap.size + 1, 0, none⟩)]], .agg #[.int .i64 ke, .int .i64 ne, .string fe, .string se, .slice ve1 ve2 ve3]] W8 (IsAns (bodyPs m l k) (faceOf m l own) m.funcs[k].body W8)) := by
        have h8 := HB45.out.trans (hN.bel.mono HB45.out.size)
        obtain ⟨z1, z2, z3, z4, z5⟩ := HMem.out W8 h8
        rw [HPsAt.out]
        exact names_expr m l own m.funcs[k].params og.params m.funcs[k].body hN z1 z2 z3 z4 (HGp.out W8 (HB5.out.trans (hN.bel.mono HB5.out.size))) HLk.out z5 hz hzo HBodyF.out (by rw [← HPsAt.out]; exact HSz.out)
      have HB8 := veil (HB45.out.trans (hN.bel.mono HB45.out.size))
      have n0 := hN.n0
      have n1 := hN.n1
      have r7 := (hN.bel.cell (p := ⟨W4.heap.size, 7, none⟩) h45).trans q7
      have r8 := (hN.bel.cell (p := ⟨W4.heap.size, 8, none⟩) h45).trans q8
      have r9 := (hN.bel.cell (p := ⟨W4.heap.size, 9, none⟩) h45).trans q9
      have r10 := (hN.bel.cell (p := ⟨W4.heap.size, 10, none⟩) h45).trans q10
      have r11 := (hN.bel.cell (p := ⟨W4.heap.size, 11, none⟩) h45).trans q11
      have r2 := (hN.bel.cell (p := ⟨w3.heap.size, 2, none⟩) h3w).trans e2
      have hl8 : w3.heap.size < W8.heap.size := Nat.lt_of_lt_of_le h3w hN.bel.size
      rw [HW8.out]
      clear HW8 hN HX HY HPa HQa HP HQ HK0 q2 q7 q8 q9 q10 q11 e1 e2 m0 m1 m2 HGp HMem HA HSz HBox4 HLk HPsAt HBodyF h45 h3w hwm HB45 HB5
      unfold IsAns at HEx
      rw [← HIsAt.out] at HEx
      clear HIsAt
      generalize bodyIs m l own k = r at *
      obtain ⟨rs, rc⟩ := r
      go_wp2_with fail
      refine HEx.out.mono ?_
      rintro e w9 ⟨rfl, hb9⟩
      have x2 := (hb9.cell (p := ⟨w3.heap.size, 2, none⟩) hl8).trans r2
      have HB9 := veil (HB8.out.trans (hb9.mono HB8.out.size))
      clear hb9 HEx n0 n1 r7 r8 r9 r10 r11 r2
      by_cases hrc : rc = 0
      · subst hrc
        cases hq : (rs.toList == sr.toList) with
        | true =>
          have hq' : (rs.toList != sr.toList) = false := by simp [bne, hq]
          have HR : Hid (bc = 0) := by
            show _ = _
            rw [HCode2.out]
            simp [sEq, hq]
          clear HCode2
          go_wp2_with fail
          go_ret
          exact ⟨by rw [HR.out]; rfl, HB9.out⟩
        | false =>
          have hq' : (rs.toList != sr.toList) = true := by simp [bne, hq]
          have HR : Hid (bc = 8) := by
            show _ = _
            rw [HCode2.out]
            simp [sEq, hq]
          clear HCode2
          go_wp2_with fail
          go_ret
          exact ⟨by rw [HR.out]; rfl, HB9.out⟩
      · have hrc' : (rc != 0) = true := by simp [hrc]
        have HR : Hid (bc = rc) := by show _ = _; rw [HCode2.out]; exact if_neg hrc
        clear HCode2 hrc
        go_wp2_with fail
        go_ret
        exact ⟨by rw [HR.out]; rfl, HB9.out⟩
    · rename_i hHeld
      have hbW := hHeld.1
      clear hHeld
      obtain ⟨W8, HW8, hN⟩ : ∃ W8, Hid (((w7.setCell ⟨w6.heap.size, 0, none⟩ (.func (.func 27) #[] #[.pointer (some ⟨W5.heap.size, 0, none⟩), .pointer (some ⟨W5.heap.size + 1, 0, none⟩)])).setCell ⟨w6.heap.size, 1, none⟩ (.func (.func 30) #[] #[.pointer (some ⟨w6.heap.size + 1 + 2, 0, none⟩), .pointer (some ⟨w6.heap.size + 1, 0, none⟩), .pointer (some ⟨w6.heap.size + 1 + 1, 0, none⟩)])) = W8) ∧ NamesAt W5 W8 (w6.heap.size) (W5.heap.size) (W5.heap.size + 1) (w6.heap.size + 1 + 2) (w6.heap.size + 1) (w6.heap.size + 1 + 1) (.slice vp1 vp2 vp3) (.slice xa xn xc) (.slice u1 u2 u3) (.slice t1 t2 t3) (.slice (some ⟨b, off, none⟩) m.funcs.length f3) (.slice la ln lc) (.slice o1 o2 o3) (.slice o4 o5 o6) := by
        obtain ⟨hx0, x0, x1⟩ := HX.out
        obtain ⟨hy0, y0, y1, y2, y3, y4, y5⟩ := HY.out
        have hk7 : ∀ (a : Addr) y, a.block ≠ w6.heap.size → w7.cell? a = some y → ((w7.setCell ⟨w6.heap.size, 0, none⟩ (.func (.func 27) #[] #[.pointer (some ⟨W5.heap.size, 0, none⟩), .pointer (some ⟨W5.heap.size + 1, 0, none⟩)])).setCell ⟨w6.heap.size, 1, none⟩ (.func (.func 30) #[] #[.pointer (some ⟨w6.heap.size + 1 + 2, 0, none⟩), .pointer (some ⟨w6.heap.size + 1, 0, none⟩), .pointer (some ⟨w6.heap.size + 1 + 1, 0, none⟩)])).cell? a = some y := fun a y hne h => by
          rw [World.cell?_setCell_far _ _ _ _ (fun e => hne e.symm), World.cell?_setCell_far _ _ _ _ (fun e => hne e.symm)]; exact h
        have hd : W5.drew.heap.size = W5.heap.size := rfl
        have hk6 : ∀ (a : Addr) y, a.block ≠ w6.heap.size → w6.cell? a = some y → ((w7.setCell ⟨w6.heap.size, 0, none⟩ (.func (.func 27) #[] #[.pointer (some ⟨W5.heap.size, 0, none⟩), .pointer (some ⟨W5.heap.size + 1, 0, none⟩)])).setCell ⟨w6.heap.size, 1, none⟩ (.func (.func 30) #[] #[.pointer (some ⟨w6.heap.size + 1 + 2, 0, none⟩), .pointer (some ⟨w6.heap.size + 1, 0, none⟩), .pointer (some ⟨w6.heap.size + 1 + 1, 0, none⟩)])).cell? a = some y := fun a y hne h => by
          have hl := World.block_lt_of_cell? _ _ h
          refine hk7 _ _ hne ((hb7.cell (by simp; omega)).trans ?_)
          exact (((Below.refl w6.heap.size w6).alloc (Nat.le_refl _) _).cell hl).trans h
        have hn01 : (⟨w6.heap.size, 0, none⟩ : Addr) ≠ ⟨w6.heap.size, 1, none⟩ := fun e => absurd (show (0 : Nat) = 1 from congrArg Addr.off e) (by decide)
        have hn10 : (⟨w6.heap.size, 1, none⟩ : Addr) ≠ ⟨w6.heap.size, 0, none⟩ := fun e => absurd (show (1 : Nat) = 0 from congrArg Addr.off e) (by decide)
        refine ⟨_, rfl, hbW, ?_, ?_, hk6 _ _ (by dsimp only; omega) x0, hk6 _ _ (by dsimp only; omega) x1, hk7 _ _ (by dsimp only; omega) y0, hk7 _ _ (by dsimp only; omega) y1, hk7 _ _ (by dsimp only; omega) y2, hk7 _ _ (by dsimp only; omega) y3, hk7 _ _ (by dsimp only; omega) y4, hk7 _ _ (by dsimp only; omega) y5⟩
        · rw [World.cell?_setCell_other _ _ _ _ hn10]
          exact World.cell?_setCell_same _ _ _ g4
        · exact World.cell?_setCell_same _ _ _ ((World.cell?_setCell_other _ _ _ _ hn01).trans g5)
      have HEx : Hid (Calls Tryz.prog 16 #[.agg #[.func (.func 27) #[] #[.pointer (some ⟨W5.heap.size, 0, none⟩), .pointer (some ⟨W5.heap.size + 1, 0, none⟩)], .func (.func 30) #[] #[.pointer (some ⟨w6.heap.size + 1 + 2, 0, none⟩), .pointer (some ⟨w6.heap.size + 1, 0, none⟩), .pointer (some ⟨w6.heap.size + 1 + 1, 0, none⟩)]], .agg #[.int .i64 ke, .int .i64 ne, .string fe, .string se, .slice ve1 ve2 ve3]] W8 (IsAns (bodyPs m l k) (faceOf m l own) m.funcs[k].body W8)) := by
        have h8 := HB45.out.trans (hN.bel.mono HB45.out.size)
        obtain ⟨z1, z2, z3, z4, z5⟩ := HMem.out W8 h8
        rw [HPsAt.out]
        exact names_expr m l own m.funcs[k].params og.params m.funcs[k].body hN z1 z2 z3 z4 (HGp.out W8 (HB5.out.trans (hN.bel.mono HB5.out.size))) HLk.out z5 hz hzo HBodyF.out (by rw [← HPsAt.out]; exact HSz.out)
      have HB8 := veil (HB45.out.trans (hN.bel.mono HB45.out.size))
      have n0 := hN.n0
      have n1 := hN.n1
      have r7 := (hN.bel.cell (p := ⟨W4.heap.size, 7, none⟩) h45).trans q7
      have r8 := (hN.bel.cell (p := ⟨W4.heap.size, 8, none⟩) h45).trans q8
      have r9 := (hN.bel.cell (p := ⟨W4.heap.size, 9, none⟩) h45).trans q9
      have r10 := (hN.bel.cell (p := ⟨W4.heap.size, 10, none⟩) h45).trans q10
      have r11 := (hN.bel.cell (p := ⟨W4.heap.size, 11, none⟩) h45).trans q11
      have r2 := (hN.bel.cell (p := ⟨w3.heap.size, 2, none⟩) h3w).trans e2
      have hl8 : w3.heap.size < W8.heap.size := Nat.lt_of_lt_of_le h3w hN.bel.size
      rw [HW8.out]
      clear HW8 hN HX HY HPa HQa HP HQ HK0 q2 q7 q8 q9 q10 q11 e1 e2 m0 m1 m2 HGp HMem HA HSz HBox4 HLk HPsAt HBodyF h45 h3w hwm HB45 HB5
      unfold IsAns at HEx
      rw [← HIsAt.out] at HEx
      clear HIsAt
      generalize bodyIs m l own k = r at *
      obtain ⟨rs, rc⟩ := r
      go_wp2_with fail
      refine HEx.out.mono ?_
      rintro e w9 ⟨rfl, hb9⟩
      have x2 := (hb9.cell (p := ⟨w3.heap.size, 2, none⟩) hl8).trans r2
      have HB9 := veil (HB8.out.trans (hb9.mono HB8.out.size))
      clear hb9 HEx n0 n1 r7 r8 r9 r10 r11 r2
      by_cases hrc : rc = 0
      · subst hrc
        cases hq : (rs.toList == sr.toList) with
        | true =>
          have hq' : (rs.toList != sr.toList) = false := by simp [bne, hq]
          have HR : Hid (bc = 0) := by
            show _ = _
            rw [HCode2.out]
            simp [sEq, hq]
          clear HCode2
          go_wp2_with fail
          go_ret
          exact ⟨by rw [HR.out]; rfl, HB9.out⟩
        | false =>
          have hq' : (rs.toList != sr.toList) = true := by simp [bne, hq]
          have HR : Hid (bc = 8) := by
            show _ = _
            rw [HCode2.out]
            simp [sEq, hq]
          clear HCode2
          go_wp2_with fail
          go_ret
          exact ⟨by rw [HR.out]; rfl, HB9.out⟩
      · have hrc' : (rc != 0) = true := by simp [hrc]
        have HR : Hid (bc = rc) := by show _ = _; rw [HCode2.out]; exact if_neg hrc
        clear HCode2 hrc
        go_wp2_with fail
        go_ret
        exact ⟨by rw [HR.out]; rfl, HB9.out⟩
    · rename_i hHeld
      have hbW := hHeld.1
      clear hHeld
      obtain ⟨W8, HW8, hN⟩ : ∃ W8, Hid (((w7.setCell ⟨W5.heap.size, 0, none⟩ (.func (.func 27) #[] #[.pointer (some ⟨W5.heap.size + 1, 0, none⟩), .pointer (some ⟨W5.heap.size + 2, 0, none⟩)])).setCell ⟨W5.heap.size, 1, none⟩ (.func (.func 30) #[] #[.pointer (some ⟨w6.heap.size + 2, 0, none⟩), .pointer (some ⟨w6.heap.size, 0, none⟩), .pointer (some ⟨w6.heap.size + 1, 0, none⟩)])) = W8) ∧ NamesAt W5 W8 (W5.heap.size) (W5.heap.size + 1) (W5.heap.size + 2) (w6.heap.size + 2) (w6.heap.size) (w6.heap.size + 1) (.slice vp1 vp2 vp3) (.slice xa xn xc) (.slice u1 u2 u3) (.slice t1 t2 t3) (.slice (some ⟨b, off, none⟩) m.funcs.length f3) (.slice la ln lc) (.slice o1 o2 o3) (.slice o4 o5 o6) := by
        obtain ⟨hx0, x0, x1⟩ := HX.out
        obtain ⟨hy0, y0, y1, y2, y3, y4, y5⟩ := HY.out
        have hk7 : ∀ (a : Addr) y, a.block ≠ W5.heap.size → w7.cell? a = some y → ((w7.setCell ⟨W5.heap.size, 0, none⟩ (.func (.func 27) #[] #[.pointer (some ⟨W5.heap.size + 1, 0, none⟩), .pointer (some ⟨W5.heap.size + 2, 0, none⟩)])).setCell ⟨W5.heap.size, 1, none⟩ (.func (.func 30) #[] #[.pointer (some ⟨w6.heap.size + 2, 0, none⟩), .pointer (some ⟨w6.heap.size, 0, none⟩), .pointer (some ⟨w6.heap.size + 1, 0, none⟩)])).cell? a = some y := fun a y hne h => by
          rw [World.cell?_setCell_far _ _ _ _ (fun e => hne e.symm), World.cell?_setCell_far _ _ _ _ (fun e => hne e.symm)]; exact h
        have hk6 : ∀ (a : Addr) y, a.block ≠ W5.heap.size → w6.cell? a = some y → ((w7.setCell ⟨W5.heap.size, 0, none⟩ (.func (.func 27) #[] #[.pointer (some ⟨W5.heap.size + 1, 0, none⟩), .pointer (some ⟨W5.heap.size + 2, 0, none⟩)])).setCell ⟨W5.heap.size, 1, none⟩ (.func (.func 30) #[] #[.pointer (some ⟨w6.heap.size + 2, 0, none⟩), .pointer (some ⟨w6.heap.size, 0, none⟩), .pointer (some ⟨w6.heap.size + 1, 0, none⟩)])).cell? a = some y := fun a y hne h =>
          hk7 _ _ hne ((hb7.cell (World.block_lt_of_cell? _ _ h)).trans h)
        have hn01 : (⟨W5.heap.size, 0, none⟩ : Addr) ≠ ⟨W5.heap.size, 1, none⟩ := fun e => absurd (show (0 : Nat) = 1 from congrArg Addr.off e) (by decide)
        have hn10 : (⟨W5.heap.size, 1, none⟩ : Addr) ≠ ⟨W5.heap.size, 0, none⟩ := fun e => absurd (show (1 : Nat) = 0 from congrArg Addr.off e) (by decide)
        refine ⟨_, rfl, hbW, ?_, ?_, hk6 _ _ (by dsimp only; omega) x0, hk6 _ _ (by dsimp only; omega) x1, hk7 _ _ (by dsimp only; omega) y0, hk7 _ _ (by dsimp only; omega) y1, hk7 _ _ (by dsimp only; omega) y2, hk7 _ _ (by dsimp only; omega) y3, hk7 _ _ (by dsimp only; omega) y4, hk7 _ _ (by dsimp only; omega) y5⟩
        · rw [World.cell?_setCell_other _ _ _ _ hn10]
          exact World.cell?_setCell_same _ _ _ g4
        · exact World.cell?_setCell_same _ _ _ ((World.cell?_setCell_other _ _ _ _ hn01).trans g5)
      have HEx : Hid (Calls Tryz.prog 16 #[.agg #[.func (.func 27) #[] #[.pointer (some ⟨W5.heap.size + 1, 0, none⟩), .pointer (some ⟨W5.heap.size + 2, 0, none⟩)], .func (.func 30) #[] #[.pointer (some ⟨w6.heap.size + 2, 0, none⟩), .pointer (some ⟨w6.heap.size, 0, none⟩), .pointer (some ⟨w6.heap.size + 1, 0, none⟩)]], .agg #[.int .i64 ke, .int .i64 ne, .string fe, .string se, .slice ve1 ve2 ve3]] W8 (IsAns (bodyPs m l k) (faceOf m l own) m.funcs[k].body W8)) := by
        have h8 := HB45.out.trans (hN.bel.mono HB45.out.size)
        obtain ⟨z1, z2, z3, z4, z5⟩ := HMem.out W8 h8
        rw [HPsAt.out]
        exact names_expr m l own m.funcs[k].params og.params m.funcs[k].body hN z1 z2 z3 z4 (HGp.out W8 (HB5.out.trans (hN.bel.mono HB5.out.size))) HLk.out z5 hz hzo HBodyF.out (by rw [← HPsAt.out]; exact HSz.out)
      have HB8 := veil (HB45.out.trans (hN.bel.mono HB45.out.size))
      have n0 := hN.n0
      have n1 := hN.n1
      have r7 := (hN.bel.cell (p := ⟨W4.heap.size, 7, none⟩) h45).trans q7
      have r8 := (hN.bel.cell (p := ⟨W4.heap.size, 8, none⟩) h45).trans q8
      have r9 := (hN.bel.cell (p := ⟨W4.heap.size, 9, none⟩) h45).trans q9
      have r10 := (hN.bel.cell (p := ⟨W4.heap.size, 10, none⟩) h45).trans q10
      have r11 := (hN.bel.cell (p := ⟨W4.heap.size, 11, none⟩) h45).trans q11
      have r2 := (hN.bel.cell (p := ⟨w3.heap.size, 2, none⟩) h3w).trans e2
      have hl8 : w3.heap.size < W8.heap.size := Nat.lt_of_lt_of_le h3w hN.bel.size
      rw [HW8.out]
      clear HW8 hN HX HY HPa HQa HP HQ HK0 q2 q7 q8 q9 q10 q11 e1 e2 m0 m1 m2 HGp HMem HA HSz HBox4 HLk HPsAt HBodyF h45 h3w hwm HB45 HB5
      unfold IsAns at HEx
      rw [← HIsAt.out] at HEx
      clear HIsAt
      generalize bodyIs m l own k = r at *
      obtain ⟨rs, rc⟩ := r
      go_wp2_with fail
      refine HEx.out.mono ?_
      rintro e w9 ⟨rfl, hb9⟩
      have x2 := (hb9.cell (p := ⟨w3.heap.size, 2, none⟩) hl8).trans r2
      have HB9 := veil (HB8.out.trans (hb9.mono HB8.out.size))
      clear hb9 HEx n0 n1 r7 r8 r9 r10 r11 r2
      by_cases hrc : rc = 0
      · subst hrc
        cases hq : (rs.toList == sr.toList) with
        | true =>
          have hq' : (rs.toList != sr.toList) = false := by simp [bne, hq]
          have HR : Hid (bc = 0) := by
            show _ = _
            rw [HCode2.out]
            simp [sEq, hq]
          clear HCode2
          go_wp2_with fail
          go_ret
          exact ⟨by rw [HR.out]; rfl, HB9.out⟩
        | false =>
          have hq' : (rs.toList != sr.toList) = true := by simp [bne, hq]
          have HR : Hid (bc = 8) := by
            show _ = _
            rw [HCode2.out]
            simp [sEq, hq]
          clear HCode2
          go_wp2_with fail
          go_ret
          exact ⟨by rw [HR.out]; rfl, HB9.out⟩
      · have hrc' : (rc != 0) = true := by simp [hrc]
        have HR : Hid (bc = rc) := by show _ = _; rw [HCode2.out]; exact if_neg hrc
        clear HCode2 hrc
        go_wp2_with fail
        go_ret
        exact ⟨by rw [HR.out]; rfl, HB9.out⟩
  · have hc' : (oc != 0) = true := by simp [hc]
    have HR : Hid (bc = oc) := by show _ = _; rw [HCode.out, if_neg hc]
    clear hc HCode
    go_wp2_with (first | (rw [HW4.out]; clear HW4) | fail)
    go_ret
    exact ⟨by rw [HR.out]; rfl, HB4.out⟩

end Go.Proofs.YtcpnfkeoajeodaaGreatDoor
