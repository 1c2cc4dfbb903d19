/- What the reader's named and variable answer, at every reader and every way back. -/
import Derived.Test.YtpamadnckijfkabGreatDoorReadTy
import Derived.Test.YtpamadnckijfkabGreatDoorReadAdv
namespace Go.Proofs.YtpamadnckijfkabGreatDoor
open Go.RowKit
set_option maxRecDepth 100000

def NamedReads : Prop := ∀ (B : Nat) (l : Toks) (i : Nat) (s : ByteArray) (w : World) (g : Nat) (lb : Array Value), (∀ args w, (callFunc g args).run Tryz.prog w = .ok (.enter g args) w) → ∀ (R : Int → World → Prop), RdAt B l i w →
    (∀ e, pNamed l s.data.toList i = .bad e → ∀ w', Moved B w w' → R e w') →
    (∀ x j, pNamed l s.data.toList i = .ok x j → ∀ w' v, Moved B w w' → RdAt B l j w' → FdIs (Fresh w.heap.size w') w' x v → Calls Tryz.prog g (#[v] ++ lb) w' (Ends R)) →
    Calls Tryz.prog 32 #[.pointer (some ⟨B, 0, none⟩), .string s, .func (.func g) #[] lb] w (Ends R)

/-- the way back of a name's type. -/
theorem named_back (g : Nat) (lb : Array Value) (eg : ∀ args w, (callFunc g args).run Tryz.prog w = .ok (.enter g args) w) (R : Int → World → Prop) (bk bn : Nat) (nm : ByteArray) (k : Int) (f n : ByteArray) (va1 : Option Addr) (va2 va3 : Nat) (W : World)
    (hk : W.cell? ⟨bk, 0, none⟩ = some (.func (.func g) #[] lb)) (hn : W.cell? ⟨bn, 0, none⟩ = some (.string nm)) 
    (h : Calls Tryz.prog g (#[.agg #[.string nm, .int .i64 k, .string f, .string n, .slice va1 va2 va3]] ++ lb) (W.alloc (.cells #[.int .i64 k, .string f, .string n, .slice va1 va2 va3] 49)) (Ends R)) :
    Calls Tryz.prog 69 #[.agg #[.int .i64 k, .string f, .string n, .slice va1 va2 va3], .pointer (some ⟨bk, 0, none⟩), .pointer (some ⟨bn, 0, none⟩)] W (Ends R) := by
  have HK := veil h
  have hbk : bk < W.heap.size := World.block_lt_of_cell? W _ hk
  have hbn : bn < W.heap.size := World.block_lt_of_cell? W _ hn
  clear h
  go_enter Tryz.func69, Tryz.ntmps69
  go_wp2_with fail
  refine HK.out.mono ?_
  rintro e w' ⟨y, rfl, hy⟩
  have HY := veil hy
  clear hy
  go_wp2_with fail
  go_ret
  exact ⟨_, rfl, HY.out⟩

set_option maxHeartbeats 4000000 in
theorem named_next : NamedReads := by
  intro B l i s w g lb eg R hr hbad hok
  have hlt := rd_lt hr
  have hal : Below w.heap.size w (w.alloc (.cells #[.func (.func g) #[] lb] 82)) := (Below.refl _ _).alloc (Nat.le_refl _) _
  have HM0 : Hid (Moved B w (w.alloc (.cells #[.func (.func g) #[] lb] 82))) := Moved.of_below hal (by omega)
  have HR0 := veil (rd_below hr hal)
  have HBad := veil hbad
  have HOk := veil hok
  have HEg := veil eg
  have hef := makeFunc_run
  clear hbad hok hr hal eg
  go_enter Tryz.func32, Tryz.ntmps32
  go_wp2_with fail
  refine (ident_next B l i _ HR0.out).mono ?_
  rintro e w1 ⟨hm, ⟨hi, t, i', rfl, hr⟩ | ⟨t, hi, hok, rfl, hr⟩⟩
  · have hsz1 : w.heap.size + 1 ≤ w1.heap.size := by have := hm.below.size; simpa using this
    have HB := veil (HBad.out 4 (by unfold pNamed; rw [hi]) (w1.alloc (.cells #[.string t] 9)) ((HM0.out.trans hm).alloc (by omega) _))
    clear hm hi hr HBad HOk
    go_wp2_with fail
    go_ret
    exact ⟨_, rfl, HB.out⟩
  · have hsz1 : w.heap.size + 1 ≤ w1.heap.size := by have := hm.below.size; simpa using this
    have hP : pNamed l s.data.toList i = if sgn l (i + 1) s.data.toList = true then (match pTy l 40 (i + 2) with
        | .bad e => .bad e
        | .ok ty j => .ok ⟨t, ty⟩ j) else .bad 4 := by unfold pNamed; rw [hi]; rfl
    have HP := veil hP
    have hal2 : Below w1.heap.size w1 (w1.alloc (.cells #[.string t] 9)) := (Below.refl _ _).alloc (Nat.le_refl _) _
    have hts := ident_le hok
    have HTs := veil hts
    have hck : w1.cell? ⟨w.heap.size, 0, none⟩ = some (.func (.func g) #[] lb) := (hm.cell (by omega) (by simp) 0).trans (World.cell?_alloc_at _ _ _ _ rfl)
    have hw2 : ∃ w2, w1.alloc (.cells #[.string t] 9) = w2 ∧ w2.cell? ⟨w.heap.size, 0, none⟩ = some (.func (.func g) #[] lb) ∧ w2.cell? ⟨w1.heap.size, 0, none⟩ = some (.string t) ∧ w2.heap.size = w1.heap.size + 1 :=
      ⟨_, rfl, (World.cell?_alloc_old _ _ _ (by show w.heap.size ≠ _; omega)).trans hck, World.cell?_alloc_at _ _ _ _ rfl, by simp⟩
    have HM2 : Hid (Moved B w (w1.alloc (.cells #[.string t] 9))) := (HM0.out.trans hm).trans (Moved.of_below hal2 (by omega))
    have HR2 := veil (rd_below hr hal2)
    obtain ⟨w2, hwe, x0, x1, hs2⟩ := hw2
    rw [hwe] at HM2 HR2
    have HX := veil (show ∀ W, Moved B w2 W → W.cell? ⟨w.heap.size, 0, none⟩ = some (.func (.func g) #[] lb) ∧ W.cell? ⟨w1.heap.size, 0, none⟩ = some (.string t) from fun W h => ⟨(h.cell (by omega) (by omega) 0).trans x0, (h.cell (by omega) (by omega) 0).trans x1⟩)
    clear hm hi hr hok hal2 hck hts hP
    go_wp2_with fail
    try rw [hwe]
    refine (sign_next B l (i + 1) s _ HR2.out).mono ?_
    rintro e w3 ⟨rfl, q1, q2⟩
    have HN3 := veil q2
    have HM3 := veil (HM2.out.trans q2)
    have hsz3 := q2.below.size
    cases hs : sgn l (i + 1) s.data.toList
    · have HB := veil (HBad.out 4 (by rw [HP.out, if_neg (by rw [hs]; simp)]) w3 HM3.out)
      try rw [hs]
      clear q1 q2 hs HBad HOk hwe x0 x1
      go_wp2_with fail
      go_ret
      exact ⟨_, rfl, HB.out⟩
    · rw [hs] at q1
      have q1' : RdAt B l (i + 2) w3 := q1
      have hP2 : pNamed l s.data.toList i = match pTy l 40 (i + 2) with
        | .bad e => .bad e
        | .ok ty j => .ok ⟨t, ty⟩ j := by rw [HP.out, if_pos hs]
      have cT := typ_next 40 1 rfl B l (i + 2) w3 69 #[.pointer (some ⟨w.heap.size, 0, none⟩), .pointer (some ⟨w1.heap.size, 0, none⟩)] (enters_of Tryz.func69 (by kernel_rfl) rfl) R q1'
        (fun e he w' hm' => HBad.out e (by rw [hP2, he]) w' (HM3.out.trans hm'))
        (fun ty j hty w' v hm' hr' hv => by
          obtain ⟨k, f, n, va, rfl, hcs⟩ := hv
          obtain ⟨va1, va2, va3, rfl⟩ := hcs.slice
          obtain ⟨u0, u1⟩ := HX.out w' (HN3.out.trans hm')
          have hal3 : Below w'.heap.size w' (w'.alloc (.cells #[.int .i64 k, .string f, .string n, .slice va1 va2 va3] 49)) := (Below.refl _ _).alloc (Nat.le_refl _) _
          have hsz' := hm'.below.size
          have hm3 : Moved B w' (w'.alloc (.cells #[.int .i64 k, .string f, .string n, .slice va1 va2 va3] 49)) := Moved.of_below hal3 (by omega)
          refine named_back g lb HEg.out R _ _ t k f n va1 va2 va3 w' u0 u1 ?_
          refine HOk.out ⟨t, ty⟩ j (by rw [hP2, hty]) _ _ ((HM3.out.trans hm').trans hm3) (rd_below hr' hal3) ⟨k, f, n, _, rfl, HTs.out, ?_⟩
          exact hcs.keep ⟨fun b hb => hm3.above b (by have := hb.1; omega) hb.2, fun b hb => ⟨by have := hb.1; omega, Nat.lt_of_lt_of_le hb.2 hal3.size⟩⟩)
      have HCT := veil cT
      try rw [hs]
      clear q1 q1' q2 hs HBad HOk cT hwe hP2 x0 x1
      go_wp2_with fail
      refine HCT.out.mono ?_
      rintro e w' ⟨y, rfl, hy⟩
      have HY := veil hy
      clear hy
      go_wp2_with fail
      go_ret
      exact ⟨_, rfl, HY.out⟩

set_option maxHeartbeats 2000000 in
theorem variable_next (B : Nat) (l : Toks) (i : Nat) (w : World) (h : RdAt B l i w) :
    Calls Tryz.prog 70 #[.pointer (some ⟨B, 0, none⟩)] w fun e w' => Moved B w w' ∧
      ((pVar l i = .bad 4 ∧ ∃ t, e = .returned (.tuple #[.string t, .bool false])) ∨ ∃ t j, pVar l i = .ok t j ∧ t.size ≤ maxLen ∧ e = .returned (.tuple #[.string t, .bool true]) ∧ RdAt B l j w') := by
  have HH := veil h
  clear h
  go_enter Tryz.func70, Tryz.ntmps70
  go_wp2_with fail
  refine (sign_next B l i ⟨#[60]⟩ w HH.out).mono ?_
  rintro e w1 ⟨rfl, q1, q2⟩
  have HM1 := veil q2
  cases hs : sgn l i [60]
  · have hs' : sgn l i (ByteArray.mk #[60]).data.toList = false := hs
    rw [hs'] at q1
    have HR1 : Hid (RdAt B l i w1) := q1
    have HP : Hid (pVar l i = .ok emptyText i) := by show _ = _; unfold pVar; rw [if_neg (by rw [hs]; simp)]
    try rw [hs']
    clear q1 q2 hs hs'
    go_wp2_with fail
    go_ret2
    exact ⟨HM1.out, Or.inr ⟨_, _, HP.out, empty_le, rfl, HR1.out⟩⟩
  · have hs' : sgn l i (ByteArray.mk #[60]).data.toList = true := hs
    rw [hs'] at q1
    have HR1 : Hid (RdAt B l (i + 1) w1) := q1
    have hP : pVar l i = match identAt l (i + 1) with
      | none => .bad 4
      | some v => if sgn l (i + 2) [62] = true then .ok v (i + 3) else .bad 4 := by unfold pVar; rw [if_pos hs]; rfl
    have HP := veil hP
    try rw [hs']
    clear q1 q2 hs hs' hP
    go_wp2_with fail
    refine (ident_next B l (i + 1) w1 HR1.out).mono ?_
    rintro e w2 ⟨hm, ⟨hi, t, i', rfl, hr⟩ | ⟨t, hi, hok, rfl, hr⟩⟩
    · have HP2 : Hid (pVar l i = .bad 4) := by show _ = _; rw [HP.out, hi]
      have HM2 := veil (HM1.out.trans hm)
      clear hm hi hr
      go_wp2_with fail
      go_ret2
      exact ⟨HM2.out, Or.inl ⟨HP2.out, _, rfl⟩⟩
    · have hP2 : pVar l i = if sgn l (i + 2) [62] = true then .ok t (i + 3) else .bad 4 := by rw [HP.out, hi]
      have HP2 := veil hP2
      have HM2 := veil (HM1.out.trans hm)
      have HR2 := veil hr
      have HT := veil (ident_le hok)
      clear hm hi hr hP2 hok
      go_wp2_with fail
      refine (sign_next B l (i + 1 + 1) ⟨#[62]⟩ w2 HR2.out).mono ?_
      rintro e w3 ⟨rfl, q1, q2⟩
      have HM3 := veil (HM2.out.trans q2)
      cases hs : sgn l (i + 2) [62]
      · have hs' : sgn l (i + 1 + 1) (ByteArray.mk #[62]).data.toList = false := hs
        have HP3 : Hid (pVar l i = .bad 4) := by show _ = _; rw [HP2.out, if_neg (by rw [hs]; simp)]
        try rw [hs']
        clear q1 q2 hs hs'
        go_wp2_with fail
        go_ret2
        exact ⟨HM3.out, Or.inl ⟨HP3.out, _, rfl⟩⟩
      · have hs' : sgn l (i + 1 + 1) (ByteArray.mk #[62]).data.toList = true := hs
        rw [hs'] at q1
        have HR3 : Hid (RdAt B l (i + 3) w3) := q1
        have HP3 : Hid (pVar l i = .ok t (i + 3)) := by show _ = _; rw [HP2.out, if_pos hs]
        try rw [hs']
        clear q1 q2 hs hs'
        go_wp2_with fail
        go_ret2
        exact ⟨HM3.out, Or.inr ⟨_, _, HP3.out, HT.out, rfl, HR3.out⟩⟩

end Go.Proofs.YtpamadnckijfkabGreatDoor
