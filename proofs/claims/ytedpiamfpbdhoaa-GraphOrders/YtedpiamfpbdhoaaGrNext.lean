/- What graph.next answers: the place of the first node that can be told. -/
import Derived.Test.YtedpiamfpbdhoaaGrReach
namespace Go.Proofs.Ytedpiamfpbdhoaa
open Go.RowKit

/-- is it a node that is not settled? -/
def waitB (l : List Nd) (st : Nat → Bool) (s : ByteArray) : Bool := decide (posN l s < l.length) && !st (posN l s)

/-- what is held in W: the finder, and what is settled. -/
structure NEnv (S : Nat → Prop) (l : List Nd) (lv : Value) (fB sB gB rB : Nat) (st : Nat → Bool) (W : World) : Prop where
  sub : ∀ b, S b → b < W.heap.size
  sl : SlAt S (NdAt S W) 2 l lv
  gc : W.cell? ⟨gB, 0, none⟩ = some lv
  fc : W.cell? ⟨fB, 0, none⟩ = some (fndN gB)
  sc : W.cell? ⟨sB, 0, none⟩ = some (.slice (some ⟨rB, 0, none⟩) l.length l.length)
  arr : ∀ i, i < l.length → W.cell? ⟨rB, i, none⟩ = some (.bool (st i))

theorem NEnv.keep {S : Nat → Prop} {l : List Nd} {lv : Value} {fB sB gB rB : Nat} {st : Nat → Bool} {W W' : World} (h : NEnv S l lv fB sB gB rB st W) (hb : Below W.heap.size W W') : NEnv S l lv fB sB gB rB st W' := by
  have hk : ∀ (a : Addr) (v : Value), W.cell? a = some v → W'.cell? a = some v := fun a v hv => (hb.cell (World.block_lt_of_cell? _ _ hv)).trans hv
  exact ⟨fun b hb' => Nat.lt_of_lt_of_le (h.sub b hb') hb.size, ndSl_keep (Keeps.below hb h.sub) h.sl, hk _ _ h.gc, hk _ _ h.fc, hk _ _ h.sc, fun i hi => hk _ _ (h.arr i hi)⟩

set_option maxHeartbeats 2000000 in
theorem waits_any (S : Nat → Prop) (l : List Nd) (lv : Value) (fB sB gB rB : Nat) (st : Nat → Bool) (s : ByteArray) (w : World) (henv : NEnv S l lv fB sB gB rB st w) :
    Calls Try.prog 27 #[.string s, .pointer (some ⟨fB, 0, none⟩), .pointer (some ⟨sB, 0, none⟩)] w fun e w' => e = .returned (.bool (waitB l st s)) ∧ Below w.heap.size w w' := by
  have hf := findN_any S l s gB lv w henv.sub henv.sl henv.gc
  have HF := veil hf
  have c1 := henv.fc
  have HE : Hid (waitB l st s = (decide (posN l s < l.length) && !st (posN l s))) := rfl
  have hlen := henv.sl.len
  unfold maxLen at hlen
  by_cases hp : posN l s < l.length
  · have h0 := henv.arr _ hp
    have HB3 : Hid (∀ w', Below w.heap.size w w' → w'.cell? ⟨sB, 0, none⟩ = some (.slice (some ⟨rB, 0, none⟩) l.length l.length) ∧ w'.cell? ⟨rB, posN l s, none⟩ = some (.bool (st (posN l s)))) := fun w' h =>
      ⟨(henv.keep h).sc, (henv.keep h).arr _ hp⟩
    have HE' : Hid (waitB l st s = !st (posN l s)) := by show _ = _; rw [HE.out]; simp [hp]
    rw [posI_in hp] at HF
    clear henv hf HE h0
    generalize waitB l st s = r at *
    generalize st (posN l s) = z at *
    generalize posN l s = p at *
    have hp' : (p : Int) < (l.length : Int) := by omega
    have hp1 : (0 : Int) ≤ (p : Int) := by omega
    go_enter Try.func27, Try.ntmps27
    go_wp2_with fail
    refine HF.out.mono ?_
    rintro e w1 ⟨rfl, hb1⟩
    obtain ⟨f1, f2⟩ := HB3.out _ hb1
    have HB1 := veil hb1
    clear hb1
    go_wp2_with fail
    go_ret
    exact ⟨by rw [HE'.out]; rfl, HB1.out⟩
  · have HE' : Hid (waitB l st s = false) := by show _ = _; rw [HE.out]; simp [hp]
    rw [posI_out hp] at HF
    clear henv hf HE
    generalize waitB l st s = r at *
    go_enter Try.func27, Try.ntmps27
    go_wp2_with fail
    refine HF.out.mono ?_
    rintro e w1 ⟨rfl, hb1⟩
    have HB1 := veil hb1
    clear hb1
    go_wp2_with fail
    go_ret
    exact ⟨by rw [HE'.out]; rfl, HB1.out⟩

set_option maxHeartbeats 2000000 in
theorem index_wait (S : Nat → Prop) (l : List ByteArray) (v : Value) (w : World) (hS : ∀ b, S b → b < w.heap.size) (hv : SlAt S (StrAt w) 1 l v) (fB sB : Nat) (p : ByteArray → Bool) (R : World → Prop) (hR : R w) (hRk : ∀ W W', R W → Below W.heap.size W W' → R W') (hc : ∀ s ∈ l, ∀ W, R W → Calls Try.prog 27 #[.string s, .pointer (some ⟨fB, 0, none⟩), .pointer (some ⟨sB, 0, none⟩)] W fun e w' => e = .returned (.bool (p s)) ∧ Below W.heap.size W w') :
    Calls Try.prog 30 #[v, .func (.func 27) #[] #[.pointer (some ⟨fB, 0, none⟩), .pointer (some ⟨sB, 0, none⟩)]] w fun e w' => e = .returned (.int .i64 (idxOf p l)) ∧ Below w.heap.size w w' := by
  have HV := veil hv
  have HRw := veil hR
  have HRk := veil hRk
  have HCc := veil hc
  clear hR hRk hc
  have hlen := hv.len
  unfold maxLen at hlen
  obtain ⟨a, cap, rfl⟩ := hv.is
  clear hv
  go_enter Try.func30, Try.ntmps30
  go_wp2_with fail
  go_loopw [8] (fun i wr => ∃ j : Nat, j ≤ l.length ∧ i = .int .i64 j ∧ findAt p l = j + findAt p (l.drop j) ∧ Below w.heap.size w wr) (fun i _ => l.length - (intOf i).toNat)
  case atStart => exact ⟨0, Nat.zero_le _, rfl, (Nat.zero_add _).symm, Below.refl _ _⟩
  case round =>
    obtain ⟨j, hj, rfl, hq, hbl⟩ := hrel
    have HQ := veil hq
    have HBW := veil hbl
    clear hq
    by_cases hlt : j < l.length
    · have hlt' : (j : Int) < (l.length : Int) := by omega
      obtain ⟨_, b, off, rfl, hb, a0, m0⟩ := HV.out.at hlt
      have hbk := hS b hb
      rw [Nat.mul_one] at a0
      have d0 := (hbl.cell (p := ⟨b, off + j, none⟩) hbk).trans a0
      have HC : Hid (Calls Try.prog 27 #[.string l[j], .pointer (some ⟨fB, 0, none⟩), .pointer (some ⟨sB, 0, none⟩)] wr fun e w' => e = .returned (.bool (p l[j])) ∧ Below wr.heap.size wr w') := HCc.out _ (List.getElem_mem hlt) wr (HRk.out _ _ HRw.out hbl)
      have HYes : Hid (p l[j] = true → findAt p l = j) := fun h => by
        rw [HQ.out, find_yes hlt h]; rfl
      have HNo : Hid (p l[j] = false → findAt p l = (j + 1) + findAt p (l.drop (j + 1))) := fun h => by
        rw [HQ.out, find_no hlt h]; omega
      clear a0 m0 HV hbl HQ HCc HRk HRw
      generalize l[j] = x at *
      cases hx : p x with
      | true =>
        rw [hx] at HC
        have HI : Hid (idxOf p l = (j : Int)) := by
          show _ = _
          unfold idxOf
          rw [HYes.out hx, if_pos hlt]
        clear HYes HNo hx
        go_wp2_with fail
        refine HC.out.mono ?_
        rintro e w1 ⟨rfl, hb1⟩
        have HB1 := veil (HBW.out.trans (hb1.mono HBW.out.size))
        clear hb1
        go_wp2_with fail
        go_ret
        exact ⟨by rw [HI.out]; rfl, HB1.out⟩
      | false =>
        rw [hx] at HC
        have HN := veil (HNo.out hx)
        clear HYes HNo hx
        go_wp2_with fail
        refine HC.out.mono ?_
        rintro e w1 ⟨rfl, hb1⟩
        have HB1 := veil (HBW.out.trans (hb1.mono HBW.out.size))
        clear hb1
        go_wp2_with fail
        exact ⟨⟨j + 1, by omega, by go_num, HN.out, HB1.out⟩, by simp [intOf]; omega⟩
    · have hnl : ¬ (j : Int) < (l.length : Int) := by omega
      have HI : Hid (idxOf p l = -1) := by
        show _ = _
        unfold idxOf
        rw [HQ.out, find_end (by omega), if_neg (by omega)]
      clear HV hbl HQ
      go_wp2_with fail
      go_ret
      exact ⟨by rw [HI.out]; rfl, HBW.out⟩

theorem contains_wait (S : Nat → Prop) (l : List ByteArray) (v : Value) (w : World) (hS : ∀ b, S b → b < w.heap.size) (hv : SlAt S (StrAt w) 1 l v) (fB sB : Nat) (p : ByteArray → Bool) (R : World → Prop) (hR : R w) (hRk : ∀ W W', R W → Below W.heap.size W W' → R W') (hc : ∀ s ∈ l, ∀ W, R W → Calls Try.prog 27 #[.string s, .pointer (some ⟨fB, 0, none⟩), .pointer (some ⟨sB, 0, none⟩)] W fun e w' => e = .returned (.bool (p s)) ∧ Below W.heap.size W w') :
    Calls Try.prog 20 #[v, .func (.func 27) #[] #[.pointer (some ⟨fB, 0, none⟩), .pointer (some ⟨sB, 0, none⟩)]] w fun e w' => e = .returned (.bool (l.any p)) ∧ Below w.heap.size w w' := by
  have HC : Hid (Calls Try.prog 30 #[v, .func (.func 27) #[] #[.pointer (some ⟨fB, 0, none⟩), .pointer (some ⟨sB, 0, none⟩)]] w fun e w' => e = .returned (.int .i64 (idxOf p l)) ∧ Below w.heap.size w w') := index_wait S l v w hS hv fB sB p R hR hRk hc
  have HE := veil (find_any_b (p := p) (l := l))
  obtain ⟨a, cap, rfl⟩ := hv.is
  clear hv hR hRk hc
  generalize idxOf p l = r at *
  go_enter Try.func20, Try.ntmps20
  go_wp2_with fail
  refine HC.out.mono ?_
  rintro e w1 ⟨rfl, hb1⟩
  have HB1 := veil hb1
  clear hb1
  go_wp2_with fail
  go_ret
  exact ⟨by rw [← HE.out]; rfl, HB1.out⟩

/-- may it be told? -/
def rdyS (n : Nat) (E : Nat → List Nat) (st : Nat → Bool) (i : Nat) : Bool := !st i && (E i).all fun j => decide (n ≤ j) || st j
theorem rdy_rdyS {n : Nat} {E : Nat → List Nat} {rd : Nat → Bool} {out : List Nat} : rdyB n E rd out = rdyS n E (fun i => rd i || inL out i) := rfl
def nxtI (n : Nat) (E : Nat → List Nat) (st : Nat → Bool) : Int := match (List.range n).find? (rdyS n E st) with
  | some i => (i : Int)
  | none => -1
theorem nxtI_at {n : Nat} {E : Nat → List Nat} {st : Nat → Bool} {i : Nat} (hi : i < n) (h : rdyS n E st i = true) (hb : ∀ k, k < i → rdyS n E st k = false) : nxtI n E st = (i : Int) := by
  unfold nxtI
  have : (List.range n).find? (rdyS n E st) = some i := by
    rw [List.find?_range_eq_some]
    exact ⟨h, List.mem_range.2 hi, fun k hk => by rw [hb k hk]; rfl⟩
  rw [this]
theorem nxtI_none {n : Nat} {E : Nat → List Nat} {st : Nat → Bool} (hb : ∀ k, k < n → rdyS n E st k = false) : nxtI n E st = -1 := by
  unfold nxtI
  have : (List.range n).find? (rdyS n E st) = none := by
    rw [List.find?_eq_none]
    intro k hk
    rw [hb k (List.mem_range.1 hk)]; simp
  rw [this]
theorem all_wait {l : List Nd} {st : Nat → Bool} {us : List ByteArray} : ((us.map (posN l)).all fun j => decide (l.length ≤ j) || st j) = !us.any (waitB l st) := by
  induction us with
  | nil => rfl
  | cons u r ih =>
    rw [List.map_cons, List.all_cons, List.any_cons, ih, Bool.not_or]
    congr 1
    unfold waitB
    by_cases h : posN l u < l.length
    · have : ¬ l.length ≤ posN l u := by omega
      simp [h, this]
    · have : l.length ≤ posN l u := by omega
      simp [h, this]

set_option maxHeartbeats 4000000 in
theorem next_any (S : Nat → Prop) (l : List Nd) (la : Option Addr) (lc gB rB : Nat) (st : Nat → Bool) (w : World) (hS : ∀ b, S b → b < w.heap.size) (hl : SlAt S (NdAt S w) 2 l (.slice la l.length lc)) (hg : w.cell? ⟨gB, 0, none⟩ = some (.slice la l.length lc)) (ha : ∀ i, i < l.length → w.cell? ⟨rB, i, none⟩ = some (.bool (st i))) :
    Calls Try.prog 15 #[.slice la l.length lc, .slice (some ⟨rB, 0, none⟩) l.length l.length, fndN gB] w fun e w' => e = .returned (.int .i64 (nxtI l.length (grE l) st)) ∧ Below w.heap.size w w' := by
  have hlen := hl.len
  unfold maxLen at hlen
  obtain ⟨w2, hw2⟩ : ∃ w2, w2 = (w.alloc (.cells #[.slice (some ⟨rB, 0, none⟩) l.length l.length] 36)).alloc (.cells #[fndN gB] 34) := ⟨_, rfl⟩
  have hb2 : Below w.heap.size w w2 := by rw [hw2]; exact ((Below.refl _ _).alloc (Nat.le_refl _) _).alloc (by simp) _
  have henv : NEnv S l (.slice la l.length lc) (w.heap.size + 1) w.heap.size gB rB st w2 := by
    have hk : ∀ (a : Addr) (v : Value), w.cell? a = some v → w2.cell? a = some v := fun a v hv => (hb2.cell (World.block_lt_of_cell? _ _ hv)).trans hv
    refine ⟨fun b hb => Nat.lt_of_lt_of_le (hS b hb) hb2.size, ndSl_keep (Keeps.below hb2 hS) hl, hk _ _ hg, ?_, ?_, fun i hi => hk _ _ (ha i hi)⟩
    · rw [hw2]; simp [go_sem]
    · rw [hw2]; simp [go_sem]
  have HB2 := veil hb2
  have HEnv := veil henv
  have HW2 := veil hw2.symm
  clear hl hg ha hb2 henv hw2 hS
  go_enter Try.func15, Try.ntmps15
  go_wp2_with fail
  rw [HW2.out]
  clear HW2
  go_loopw [13] (fun i wr => ∃ j : Nat, j ≤ l.length ∧ i = .int .i64 j ∧ (∀ k, k < j → rdyS l.length (grE l) st k = false) ∧ Below w2.heap.size w2 wr) (fun i _ => l.length - (intOf i).toNat)
  case atStart => exact ⟨0, Nat.zero_le _, rfl, fun k hk => absurd hk (by omega), Below.refl _ _⟩
  case round =>
    obtain ⟨j, hj, rfl, hno, hbl⟩ := hrel
    have HNo := veil hno
    have HBl := veil hbl
    clear hno
    by_cases hjt : j < l.length
    · have hjt' : (j : Int) < (l.length : Int) := by omega
      have hj0 : (0 : Int) ≤ (j : Int) := by omega
      have henv := HEnv.out.keep hbl
      obtain ⟨_, b, off, rfl, hb, hat⟩ := henv.sl.at hjt
      obtain ⟨a1, cap1, c0, m0, c1, hu⟩ := nd_cells hat
      have s1 := henv.sc
      have g1 := henv.arr j hjt
      have hslt := World.block_lt_of_cell? _ _ s1
      have hrlt := World.block_lt_of_cell? _ _ g1
      have HYes : Hid (rdyS l.length (grE l) st j = true → nxtI l.length (grE l) st = (j : Int)) := fun h => nxtI_at hjt h HNo.out
      have HOn : Hid (rdyS l.length (grE l) st j = false → ∀ k, k < j + 1 → rdyS l.length (grE l) st k = false) := fun h k hk => by
        by_cases hkj : k = j
        · rw [hkj]; exact h
        · exact HNo.out k (by omega)
      have HBx : Hid (∀ o W, Below (wr.alloc o).heap.size (wr.alloc o) W → Below w2.heap.size w2 W) := fun o W hW => HBl.out.trans ((((Below.refl _ _).alloc (Nat.le_refl _) o).trans (hW.mono (by simp))).mono HBl.out.size)
      cases hst : st j with
      | true =>
        have hr : rdyS l.length (grE l) st j = false := by unfold rdyS; rw [hst]; rfl
        have HN := veil (HOn.out hr)
        have HBa : Hid (∀ o, Below w2.heap.size w2 (wr.alloc o)) := fun o => HBl.out.alloc HBl.out.size _
        rw [hst] at g1
        clear HYes HOn HNo hr hst hu hat m0 henv hbl HEnv
        go_wp2_with fail
        exact ⟨⟨j + 1, by omega, by go_num, HN.out, HBa.out _⟩, by simp [intOf]; omega⟩
      | false =>
        have HR : Hid (rdyS l.length (grE l) st j = !l[j].uses.any (waitB l st)) := by
          show _ = _
          unfold rdyS
          rw [hst, grE_at hjt, all_wait]; rfl
        have HC : Hid (∀ o, Calls Try.prog 20 #[.slice a1 l[j].uses.length cap1, .func (.func 27) #[] #[.pointer (some ⟨w.heap.size + 1, 0, none⟩), .pointer (some ⟨w.heap.size, 0, none⟩)]] (wr.alloc o) fun e w' => e = .returned (.bool (l[j].uses.any (waitB l st))) ∧ Below (wr.alloc o).heap.size (wr.alloc o) w') := fun o => by
          have hba : Below wr.heap.size wr (wr.alloc o) := (Below.refl _ _).alloc (Nat.le_refl _) o
          have he := henv.keep hba
          exact contains_wait S _ _ _ he.sub (strSl_keep (Keeps.below hba henv.sub) hu) _ _ _ (NEnv S l (.slice (some ⟨b, off, none⟩) l.length lc) (w.heap.size + 1) w.heap.size gB rB st) he (fun _ _ h hb => h.keep hb) (fun s _ W hW => waits_any S l _ _ _ gB rB st s W hW)
        rw [hst] at g1
        clear HNo hst hu hat m0 henv hbl HEnv
        generalize l[j].name = x at *
        generalize l[j].uses.length = un at *
        cases hz : l[j].uses.any (waitB l st) with
        | true =>
          rw [hz] at HC
          have HN := veil (HOn.out (by rw [HR.out, hz]; rfl))
          clear HYes HOn HR hz
          go_wp2_with fail
          refine (HC.out _).mono ?_
          rintro e w3 ⟨rfl, hb3⟩
          have HB3 := veil (HBx.out _ _ hb3)
          clear hb3
          go_wp2_with fail
          exact ⟨⟨j + 1, by omega, by go_num, HN.out, HB3.out⟩, by simp [intOf]; omega⟩
        | false =>
          rw [hz] at HC
          have HN := veil (HYes.out (by rw [HR.out, hz]; rfl))
          clear HYes HOn HR hz
          go_wp2_with fail
          refine (HC.out _).mono ?_
          rintro e w3 ⟨rfl, hb3⟩
          have HB3 := veil (HB2.out.trans ((HBx.out _ _ hb3).mono HB2.out.size))
          clear hb3
          go_wp2_with fail
          go_ret
          exact ⟨by rw [HN.out]; rfl, HB3.out⟩
    · have hjn : ¬ (j : Int) < (l.length : Int) := by omega
      have HR := veil (nxtI_none (E := grE l) (st := st) (n := l.length) (fun k hk => HNo.out k (by omega)))
      have HB3 := veil (HB2.out.trans (hbl.mono HB2.out.size))
      clear HNo hbl HBl HEnv
      go_wp2_with fail
      go_ret
      exact ⟨by rw [HR.out]; rfl, HB3.out⟩

end Go.Proofs.Ytedpiamfpbdhoaa
