/- What is wrong first with a list that stands by its names: plain words; and what face.inOrder answers at types, and at functions. -/
import Derived.Test.YtieoddnaknpmlaeFaceOne
import Derived.Test.YtieoddnaknpmlaeFaceSame
namespace Go.Proofs.Ytieoddnaknpmlae
open Go.RowKit

def orderFault {α : Type} (fault : α → Int) (name : α → ByteArray) : List α → ByteArray → Int
  | [], _ => 0
  | x :: r, p => if fault x = 0 then (if gtB (name x) p = true then orderFault fault name r (name x) else 7) else fault x

theorem order_bad {α : Type} {fault : α → Int} {name : α → ByteArray} {l : List α} {k : Nat} {p : ByteArray} (hk : k < l.length) (h : fault l[k] ≠ 0) : orderFault fault name (l.drop k) p = fault l[k] := by
  rw [List.drop_eq_getElem_cons hk, orderFault, if_neg h]
theorem order_low {α : Type} {fault : α → Int} {name : α → ByteArray} {l : List α} {k : Nat} {p : ByteArray} (hk : k < l.length) (h : fault l[k] = 0) (hg : gtB (name l[k]) p = false) : orderFault fault name (l.drop k) p = 7 := by
  rw [List.drop_eq_getElem_cons hk, orderFault, if_pos h, if_neg (by rw [hg]; simp)]
theorem order_on {α : Type} {fault : α → Int} {name : α → ByteArray} {l : List α} {k : Nat} {p : ByteArray} (hk : k < l.length) (h : fault l[k] = 0) (hg : gtB (name l[k]) p = true) : orderFault fault name (l.drop k) p = orderFault fault name (l.drop (k + 1)) (name l[k]) := by
  rw [List.drop_eq_getElem_cons hk, orderFault, if_pos h, if_pos hg]
theorem order_end {α : Type} {fault : α → Int} {name : α → ByteArray} {l : List α} {k : Nat} {p : ByteArray} (hk : l.length ≤ k) : orderFault fault name (l.drop k) p = 0 := by
  rw [List.drop_eq_nil_of_le hk, orderFault]

def knFault (k : Kn) : Int := bad4 (knOk k)
def sgFault (g : Sg) : Int := bad4 (sgOk g)

/-- the name ahead lies in block B; what lay below it lies as it lay. -/
def Ahead (w : World) (p : ByteArray) (W : World) : Prop := Below w.heap.size w W ∧ w.heap.size < W.heap.size ∧ W.cell? ⟨w.heap.size, 0, none⟩ = some (.string p) ∧ W.frozen? ⟨w.heap.size, 0, none⟩ = false

theorem Ahead.start (w : World) : Ahead w ⟨#[]⟩ (w.alloc (.cells #[.string ⟨#[]⟩] 9)) :=
  ⟨(Below.refl _ _).alloc (Nat.le_refl _) _, by simp, by simp [go_sem], by simp [go_sem]⟩
theorem Ahead.later {w : World} {p : ByteArray} {W W' : World} (h : Ahead w p W) (hb : Below W.heap.size W W') : Ahead w p W' :=
  ⟨h.1.trans (hb.mono h.1.size), Nat.lt_of_lt_of_le h.2.1 hb.size, (hb.cell h.2.1).trans h.2.2.1, (hb.frozen h.2.1).trans h.2.2.2⟩
theorem Ahead.put {w : World} {p : ByteArray} {W : World} (h : Ahead w p W) (s : ByteArray) : Ahead w s (W.setCell ⟨w.heap.size, 0, none⟩ (.string s)) :=
  ⟨h.1.setCell (Nat.le_refl _) _, by simpa [World.setCell] using h.2.1, World.cell?_setCell_same' _ _ _ (by rw [h.2.2.1]; rfl), by rw [← h.2.2.2]; simp [go_sem]⟩

set_option maxHeartbeats 4000000 in
theorem inOrder_kn (S : Nat → Prop) (l : List Kn) (v : Value) (w : World) (hS : ∀ b, S b → b < w.heap.size) (hv : SlAt S (KnAt w) 2 l v) :
    Calls Try.prog 53 #[v, .func (.func 54) #[] #[], .func (.func 55) #[] #[]] w fun e w' => e = .returned (.int .i64 (orderFault knFault Kn.name l ⟨#[]⟩)) ∧ Below w.heap.size w w' := by
  have HV := veil hv
  have hlen := hv.len
  unfold maxLen at hlen
  obtain ⟨a, cap, rfl⟩ := hv.is
  have HA := veil (Ahead.start w)
  clear hv
  go_enter Try.func53, Try.ntmps53
  go_wp2_with fail
  refine (rising_any _).mono ?_
  rintro e w1 ⟨rfl, rfl⟩
  go_wp2_with fail
  go_loopw [14] (fun i wr => ∃ (j : Nat) (p : ByteArray), j ≤ l.length ∧ i = .int .i64 j ∧ orderFault knFault Kn.name l ⟨#[]⟩ = orderFault knFault Kn.name (l.drop j) p ∧ Ahead w p wr) (fun i _ => l.length - (intOf i).toNat)
  case atStart => exact ⟨0, _, Nat.zero_le _, rfl, rfl, HA.out⟩
  case round =>
    obtain ⟨j, p, hj, rfl, hq, hah⟩ := hrel
    have HQ := veil hq
    clear hq HA
    by_cases hlt : j < l.length
    · have hlt' : (j : Int) < (l.length : Int) := by omega
      obtain ⟨_, b, off, rfl, hb, ⟨a0, m0⟩, a1, m1⟩ := HV.out.at hlt
      have hbk := hS b hb
      have d0 := (hah.1.cell (p := ⟨b, off + j * 2, none⟩) hbk).trans a0
      have d1 := (hah.1.cell (p := ⟨b, off + j * 2 + 1, none⟩) hbk).trans a1
      have hbr : b < wr.heap.size := Nat.lt_of_lt_of_le hbk hah.1.size
      have HC : Hid (∀ W, Calls Try.prog 55 #[.agg #[.string l[j].name, .string l[j].is]] W fun e w' => e = .returned (.int .i64 (knFault l[j])) ∧ Below W.heap.size W w') := fun W => checkType_any _ m0 m1 W
      have HBad := veil (@order_bad _ knFault Kn.name l j p hlt)
      have HLow := veil (@order_low _ knFault Kn.name l j p hlt)
      have HOn := veil (@order_on _ knFault Kn.name l j p hlt)
      have HAh : Hid (∀ o W, Below (wr.alloc o).heap.size (wr.alloc o) W → Ahead w p W) := fun o W hW => (hah.later ((Below.refl _ _).alloc (Nat.le_refl _) o)).later hW
      have HCe : Hid (∀ x y W, Below (wr.alloc (.cells #[.string x, .string y] 53)).heap.size (wr.alloc (.cells #[.string x, .string y] 53)) W → W.cell? ⟨wr.heap.size, 0, none⟩ = some (.string x) ∧ W.cell? ⟨wr.heap.size, 1, none⟩ = some (.string y)) := fun x y W hW =>
        ⟨(hW.cell (p := ⟨wr.heap.size, 0, none⟩) (by simp)).trans (by simp [go_sem]), (hW.cell (p := ⟨wr.heap.size, 1, none⟩) (by simp)).trans (by simp [go_sem])⟩
      clear a0 a1 m0 m1 HV hah
      generalize knFault l[j] = n at *
      generalize l[j].name = x at *
      generalize l[j].is = y at *
      by_cases hn : n = 0
      · subst hn
        go_wp2_with fail
        refine (HC.out _).mono ?_
        rintro e w1 ⟨rfl, hb1⟩
        obtain ⟨e0, e1⟩ := HCe.out _ _ _ hb1
        have ha1 := HAh.out _ _ hb1
        have HA1 := veil ha1
        clear hb1 ha1
        go_wp2_with fail
        refine (typeName_any x y _).mono ?_
        rintro e w2 ⟨rfl, hb2⟩
        have ha2 := HA1.out.later hb2
        have HA2 := veil ha2
        obtain ⟨-, hsz2, hc2, hf2⟩ := ha2
        clear hb2
        cases hg : gtB x p with
        | true =>
          have HOn' := veil (HOn.out trivial hg)
          go_wp2_with fail
          refine (risingOf_any w.heap.size x p _ hc2 hf2).mono ?_
          rintro e w3 ⟨rfl, rfl⟩
          rw [hg]
          go_wp2_with fail
          exact ⟨⟨j + 1, x, by omega, by go_num, HQ.out.trans HOn'.out, HA2.out.put x⟩, by simp [intOf]; omega⟩
        | false =>
          have HLow' := veil (HLow.out trivial hg)
          have HF : Hid (∀ s, Below w.heap.size w (w2.setCell ⟨w.heap.size, 0, none⟩ (.string s))) := fun s => (HA2.out.put s).1
          go_wp2_with fail
          refine (risingOf_any w.heap.size x p _ hc2 hf2).mono ?_
          rintro e w3 ⟨rfl, rfl⟩
          rw [hg]
          go_wp2_with fail
          go_ret
          exact ⟨by rw [HQ.out, HLow'.out]; rfl, HF.out _⟩
      · have hn' : (n != 0) = true := by simpa using hn
        have HBad' := veil (HBad.out hn)
        clear hn
        go_wp2_with fail
        refine (HC.out _).mono ?_
        rintro e w1 ⟨rfl, hb1⟩
        have HB1 := veil (HAh.out _ _ hb1).1
        clear hb1
        go_wp2_with fail
        go_ret
        exact ⟨by rw [HQ.out, HBad'.out]; rfl, HB1.out⟩
    · have hnl : ¬ (j : Int) < (l.length : Int) := by omega
      have HE : Hid (orderFault knFault Kn.name l ⟨#[]⟩ = 0) := HQ.out.trans (order_end (by omega))
      have HB := veil hah.1
      clear HV hah HQ
      go_wp2_with fail
      go_ret
      exact ⟨by rw [HE.out]; rfl, HB.out⟩

set_option maxHeartbeats 4000000 in
theorem inOrder_sg (S : Nat → Prop) (l : List Sg) (v : Value) (w : World) (hS : ∀ b, S b → b < w.heap.size) (hv : SlAt S (SgAt S w) 3 l v) :
    Calls Try.prog 56 #[v, .func (.func 57) #[] #[], .func (.func 58) #[] #[]] w fun e w' => e = .returned (.int .i64 (orderFault sgFault Sg.name l ⟨#[]⟩)) ∧ Below w.heap.size w w' := by
  have HV := veil hv
  have hlen := hv.len
  unfold maxLen at hlen
  obtain ⟨a, cap, rfl⟩ := hv.is
  have HA := veil (Ahead.start w)
  clear hv
  go_enter Try.func56, Try.ntmps56
  go_wp2_with fail
  refine (rising_any _).mono ?_
  rintro e w1 ⟨rfl, rfl⟩
  go_wp2_with fail
  go_loopw [14] (fun i wr => ∃ (j : Nat) (p : ByteArray), j ≤ l.length ∧ i = .int .i64 j ∧ orderFault sgFault Sg.name l ⟨#[]⟩ = orderFault sgFault Sg.name (l.drop j) p ∧ Ahead w p wr) (fun i _ => l.length - (intOf i).toNat)
  case atStart => exact ⟨0, _, Nat.zero_le _, rfl, rfl, HA.out⟩
  case round =>
    obtain ⟨j, p, hj, rfl, hq, hah⟩ := hrel
    have HQ := veil hq
    clear hq HA
    by_cases hlt : j < l.length
    · have hlt' : (j : Int) < (l.length : Int) := by omega
      obtain ⟨_, b, off, rfl, hb, hat⟩ := HV.out.at hlt
      have hbk := hS b hb
      obtain ⟨p1, p2, p3, a0, a1, a2, hsg⟩ := sgIs_at hat
      have d0 := (hah.1.cell (p := ⟨b, off + j * 3, none⟩) hbk).trans a0
      have d1 := (hah.1.cell (p := ⟨b, off + j * 3 + 1, none⟩) hbk).trans a1
      have d2 := (hah.1.cell (p := ⟨b, off + j * 3 + 2, none⟩) hbk).trans a2
      have hbr : b < wr.heap.size := Nat.lt_of_lt_of_le hbk hah.1.size
      have HC : Hid (∀ W, Below wr.heap.size wr W → Calls Try.prog 58 #[.agg #[.string l[j].name, .slice p1 p2 p3, .string l[j].result]] W fun e w' => e = .returned (.int .i64 (sgFault l[j])) ∧ Below W.heap.size W w') := fun W hW => by
        have hbW := hah.1.trans (hW.mono hah.1.size)
        exact checkFunc_any S _ _ W (fun b hb => Nat.lt_of_lt_of_le (hS b hb) hbW.size) (hsg.keep (Keeps.below hbW hS))
      have HAl : Hid (∀ o, Below wr.heap.size wr (wr.alloc o)) := fun o => (Below.refl _ _).alloc (Nat.le_refl _) _
      have HBad := veil (@order_bad _ sgFault Sg.name l j p hlt)
      have HLow := veil (@order_low _ sgFault Sg.name l j p hlt)
      have HOn := veil (@order_on _ sgFault Sg.name l j p hlt)
      have HAh : Hid (∀ o W, Below (wr.alloc o).heap.size (wr.alloc o) W → Ahead w p W) := fun o W hW => (hah.later ((Below.refl _ _).alloc (Nat.le_refl _) o)).later hW
      have HCe : Hid (∀ x y W, Below (wr.alloc (.cells #[.string x, .slice p1 p2 p3, .string y] 34)).heap.size (wr.alloc (.cells #[.string x, .slice p1 p2 p3, .string y] 34)) W → W.cell? ⟨wr.heap.size, 0, none⟩ = some (.string x) ∧ W.cell? ⟨wr.heap.size, 1, none⟩ = some (.slice p1 p2 p3) ∧ W.cell? ⟨wr.heap.size, 2, none⟩ = some (.string y)) := fun x y W hW =>
        ⟨(hW.cell (p := ⟨wr.heap.size, 0, none⟩) (by simp)).trans (by simp [go_sem]), (hW.cell (p := ⟨wr.heap.size, 1, none⟩) (by simp)).trans (by simp [go_sem]), (hW.cell (p := ⟨wr.heap.size, 2, none⟩) (by simp)).trans (by simp [go_sem])⟩
      clear a0 a1 a2 hsg hat HV hah
      generalize sgFault l[j] = n at *
      generalize l[j].name = x at *
      generalize l[j].result = y at *
      by_cases hn : n = 0
      · subst hn
        go_wp2_with fail
        refine (HC.out _ (HAl.out _)).mono ?_
        rintro e w1 ⟨rfl, hb1⟩
        obtain ⟨e0, e1, e2⟩ := HCe.out _ _ _ hb1
        have ha1 := HAh.out _ _ hb1
        have HA1 := veil ha1
        clear hb1 ha1
        go_wp2_with fail
        refine (funcName_any x y _ _ _ _).mono ?_
        rintro e w2 ⟨rfl, hb2⟩
        have ha2 := HA1.out.later hb2
        have HA2 := veil ha2
        obtain ⟨-, hsz2, hc2, hf2⟩ := ha2
        clear hb2
        cases hg : gtB x p with
        | true =>
          have HOn' := veil (HOn.out trivial hg)
          go_wp2_with fail
          refine (risingOf_any w.heap.size x p _ hc2 hf2).mono ?_
          rintro e w3 ⟨rfl, rfl⟩
          rw [hg]
          go_wp2_with fail
          exact ⟨⟨j + 1, x, by omega, by go_num, HQ.out.trans HOn'.out, HA2.out.put x⟩, by simp [intOf]; omega⟩
        | false =>
          have HLow' := veil (HLow.out trivial hg)
          have HF : Hid (∀ s, Below w.heap.size w (w2.setCell ⟨w.heap.size, 0, none⟩ (.string s))) := fun s => (HA2.out.put s).1
          go_wp2_with fail
          refine (risingOf_any w.heap.size x p _ hc2 hf2).mono ?_
          rintro e w3 ⟨rfl, rfl⟩
          rw [hg]
          go_wp2_with fail
          go_ret
          exact ⟨by rw [HQ.out, HLow'.out]; rfl, HF.out _⟩
      · have hn' : (n != 0) = true := by simpa using hn
        have HBad' := veil (HBad.out hn)
        clear hn
        go_wp2_with fail
        refine (HC.out _ (HAl.out _)).mono ?_
        rintro e w1 ⟨rfl, hb1⟩
        have HB1 := veil (HAh.out _ _ hb1).1
        clear hb1
        go_wp2_with fail
        go_ret
        exact ⟨by rw [HQ.out, HBad'.out]; rfl, HB1.out⟩
    · have hnl : ¬ (j : Int) < (l.length : Int) := by omega
      have HE : Hid (orderFault sgFault Sg.name l ⟨#[]⟩ = 0) := HQ.out.trans (order_end (by omega))
      have HB := veil hah.1
      clear HV hah HQ
      go_wp2_with fail
      go_ret
      exact ⟨by rw [HE.out]; rfl, HB.out⟩

end Go.Proofs.Ytieoddnaknpmlae
