/- What the reference's isOf answers: what an expression is, or what is wrong first. -/
import Derived.Test.YtcpnfkeoajeodaaGreatDoorJBp
import Derived.Test.YtcpnfkeoajeodaaGreatDoorJAa
import Derived.BigQuiet
import Derived.Deep.QuietTactic
namespace Go.Proofs.YtcpnfkeoajeodaaGreatDoor
open Go.RowKit
set_option maxRecDepth 100000

/-- what an expression that may be is made of. -/
theorem ex_parts {k num : Int} {o s : ByteArray} {xs : List Ex} {d : Nat} (h : exFault (.mk k num o s xs) d = 0) : ¬ 10 < d ∧ isIn k 1 7 = true ∧ ¬ 8 < xs.length ∧ namesFit k o s = true ∧ countFits k xs.length = true ∧ exsFault xs (d + 1) = 0 := by
  rw [exFault] at h
  by_cases h1 : 10 < d
  · rw [if_pos h1] at h; cases h
  rw [if_neg h1] at h
  cases h2 : isIn k 1 7
  · rw [if_pos h2] at h; cases h
  rw [if_neg (by rw [h2]; decide)] at h
  by_cases h3 : 8 < xs.length
  · rw [if_pos h3] at h; cases h
  rw [if_neg h3] at h
  by_cases h4 : (num ≠ 0 ∧ k ≠ 1) ∨ namesFit k o s = false ∨ countFits k xs.length = false
  · rw [if_pos h4] at h; cases h
  rw [if_neg h4] at h
  split at h
  · cases h
  · exact ⟨h1, rfl, h3, by simpa using fun e => h4 (Or.inr (Or.inl e)), by simpa using fun e => h4 (Or.inr (Or.inr e)), h⟩

abbrev faceOf (m : Mo) (l : List Im) (own : Fc) : ByteArray → Fc := fun o => if noneB o = true then own else fromFc m.uses l o

/-- isOf's answer. -/
abbrev IsAns (ps : List Kn) (fc : ByteArray → Fc) (x : Ex) (W : World) : Ending → World → Prop := fun e w' => e = .returned (.tuple #[.string (exIs ps fc x).1, .int .i64 (exIs ps fc x).2]) ∧ Below W.heap.size W w'

set_option maxRecDepth 100000 in
set_option maxHeartbeats 8000000 in
theorem isOf_leaf (S : Nat → Prop) (ps : List Kn) (fc : ByteArray → Fc) (vm vl vo vp : Value) (W : World) (hS : ∀ b, S b → b < W.heap.size) (hvm : ∃ a b c d e f g h i, vm = .agg #[.slice a b c, .slice d e f, .slice g h i]) (hvl : ∃ a b c, vl = .slice a b c) (hvo : ∃ a b c d e f, vo = .agg #[.slice a b c, .slice d e f]) (hp : SlAt S (KnAt W) 2 ps vp) (k num : Int) (o s : ByteArray) (xs : List Ex) (xv : Value) (hk : k = 1 ∨ k = 2 ∨ k = 3) (hxv : ∃ a b c, xv = .slice a b c) :
    Calls Tryz.prog 18 #[vm, vl, vo, vp, .agg #[.int .i64 k, .int .i64 num, .string o, .string s, xv]] W (IsAns ps fc (.mk k num o s xs) W) := by
  obtain ⟨u1, u2, u3, t1, t2, t3, f1, f2, f3, rfl⟩ := hvm
  obtain ⟨la, ln, lc, rfl⟩ := hvl
  obtain ⟨o1, o2, o3, o4, o5, o6, rfl⟩ := hvo
  obtain ⟨xa, xn, xc, rfl⟩ := hxv
  have hplen := hp.len
  unfold maxLen at hplen
  have HP := veil hp
  obtain ⟨p1, p3, rfl⟩ := hp.is
  obtain ⟨W3, hwe, hs3, hA, e3⟩ : ∃ W3, ((W.alloc (.cells #[.slice u1 u2 u3, .slice t1 t2 t3, .slice f1 f2 f3] 26)).alloc (.cells #[.slice o1 o2 o3, .slice o4 o5 o6] 31)).alloc (.cells #[.int .i64 k, .int .i64 num, .string o, .string s, .slice xa xn xc] 52) = W3 ∧ W3.heap.size = W.heap.size + 3 ∧ Below W.heap.size W W3 ∧ W3.cell? ⟨W.heap.size + 2, 3, none⟩ = some (.string s) :=
    ⟨_, rfl, by simp, (((Below.refl _ _).alloc (Nat.le_refl _) _).alloc (by simp) _).alloc (by simp; omega) _, by simp [go_sem]⟩
  have HWe := veil hwe
  have HA := veil hA
  have HE3 := veil e3
  clear hwe hA e3
  unfold IsAns
  rcases hk with rfl | rfl | rfl
  · have HE : Hid (exIs ps fc (.mk 1 num o s xs) = (intK, 0)) := by show _ = _; rw [exIs, if_pos rfl]
    rw [HE.out]
    clear HP hp hS
    go_enter Tryz.func18, Tryz.ntmps18
    go_wp2_with fail
    rw [HWe.out]
    go_ret2
    exact ⟨rfl, HA.out⟩
  · have HE : Hid (exIs ps fc (.mk 2 num o s xs) = (textK, 0)) := by show _ = _; rw [exIs, if_neg (by decide), if_pos rfl]
    rw [HE.out]
    clear HP hp hS
    go_enter Tryz.func18, Tryz.ntmps18
    go_wp2_with fail
    rw [HWe.out]
    go_ret2
    exact ⟨rfl, HA.out⟩
  · have HE : Hid (exIs ps fc (.mk 3 num o s xs) = parIs ps s) := by show _ = _; rw [exIs, if_neg (by decide), if_neg (by decide), if_pos rfl]
    rw [HE.out]
    clear hp HE
    go_enter Tryz.func18, Tryz.ntmps18
    go_wp2_with fail
    rw [HWe.out]
    clear HWe
    go_loopw [12] (fun i wr => ∃ j : Nat, j ≤ ps.length ∧ i = .int .i64 j ∧ parAt ps s = j + findAt (fun k : Kn => sEq k.name s) (ps.drop j) ∧ Below W3.heap.size W3 wr) (fun i _ => ps.length - (intOf i).toNat)
    case atStart => exact ⟨0, Nat.zero_le _, rfl, (Nat.zero_add _).symm, Below.refl _ _⟩
    case round =>
      obtain ⟨j, hj, rfl, hq, hb⟩ := hrel
      have HQ := veil hq
      have HBl := veil hb
      have c3 := (hb.cell (p := ⟨W.heap.size + 2, 3, none⟩) (by show W.heap.size + 2 < _; omega)).trans HE3.out
      have HD : Hid (∀ n, Below W.heap.size W (wr.drewN n)) := fun n => below_drewN (HA.out.trans (hb.mono HA.out.size)) n
      have HDr : Hid (∀ n, Below W3.heap.size W3 (wr.drewN n)) := fun n => below_drewN hb n
      clear hq hb
      by_cases hlt : j < ps.length
      · have hlt' : (j : Int) < (ps.length : Int) := by omega
        have hj0 : (0 : Int) ≤ (j : Int) := by omega
        obtain ⟨_, b, off, rfl, hb, ⟨⟨a0, _⟩, a1, _⟩⟩ := HP.out.at hlt
        have hbk := hS b hb
        have hbk3 := Nat.lt_of_lt_of_le hbk HA.out.size
        have d0 := (HBl.out.cell (p := ⟨b, off + j * 2, none⟩) hbk3).trans ((HA.out.cell (p := ⟨b, off + j * 2, none⟩) hbk).trans a0)
        have HD1 : Hid (∀ n, (wr.drewN n).cell? ⟨b, off + j * 2 + 1, none⟩ = some (.string ps[j].is)) := fun n => ((HDr.out n).cell (p := ⟨b, off + j * 2 + 1, none⟩) hbk3).trans ((HA.out.cell (p := ⟨b, off + j * 2 + 1, none⟩) hbk).trans a1)
        have HYes : Hid ((ps[j].name.toList == s.toList) = true → parIs ps s = (ps[j].is, 0)) := fun h => by
          have he : parAt ps s = j := by rw [HQ.out, find_yes hlt h]; rfl
          have hl : parAt ps s < ps.length := by omega
          rw [parIs_at hl]
          simp only [he]
        have HNo : Hid ((ps[j].name.toList == s.toList) = false → parAt ps s = (j + 1) + findAt (fun k : Kn => sEq k.name s) (ps.drop (j + 1))) := fun h => by
          rw [HQ.out, find_no hlt h]; omega
        clear a0 a1 HP HQ HE3 HA
        generalize ps[j].name = x at *
        generalize ps[j].is = y at *
        cases hx : (x.toList == s.toList) with
        | true =>
          have HI := veil (HYes.out hx)
          clear HYes HNo
          go_wp2_with fail
          go_quiet (fail)
          have d1 := HD1.out nq
          go_wp2_with fail
          go_ret2
          exact ⟨by rw [HI.out]; rfl, HD.out _⟩
        | false =>
          have HN := veil (HNo.out hx)
          clear HYes HNo HD1
          go_wp2_with fail
          go_quiet (fail)
          go_wp2_with fail
          exact ⟨⟨j + 1, by omega, by go_num, HN.out, HDr.out _⟩, by simp [intOf]; omega⟩
      · have hnl : ¬ (j : Int) < (ps.length : Int) := by omega
        have HI : Hid (parIs ps s = badEx 6) := parIs_none (by rw [HQ.out, find_end (by omega)]; omega)
        have HD0 : Hid (Below W.heap.size W wr) := HA.out.trans (HBl.out.mono HA.out.size)
        clear HP HQ HE3 HD HDr
        go_wp2_with fail
        go_ret2
        exact ⟨by rw [HI.out]; rfl, HD0.out⟩

end Go.Proofs.YtcpnfkeoajeodaaGreatDoor
