/- What the reader's paramOrCall answers, at every reader and every way back, where args reads lists: a param or a call, handed to the way back; or what is wrong first. -/
import Derived.Test.YtpamadnckijfkabGreatDoorReadSum
namespace Go.Proofs.YtpamadnckijfkabGreatDoor
open Go.RowKit
set_option maxRecDepth 100000

/-- the reader's args reads as 'pList' says. -/
def ArgsReads (f d : Nat) : Prop := ∀ (B : Nat) (l : Toks) (i : Nat) (fin : ByteArray) (w : World) (g : Nat) (lb : Array Value), (∀ args w, (callFunc g args).run Tryz.prog w = .ok (.enter g args) w) → ∀ (R : Int → World → Prop), RdAt B l i w →
    (∀ e, pList (pEx l f) l fin.data.toList (l.length + 1) [] i = .bad e → ∀ w', Moved B w w' → R e w') →
    (∀ xs j, pList (pEx l f) l fin.data.toList (l.length + 1) [] i = .ok xs j → ∀ w' v, Moved B w w' → RdAt B l j w' → SlAt (Fresh w.heap.size w') (ExAt (Fresh w.heap.size w') w') 5 xs v → Calls Tryz.prog g (#[v] ++ lb) w' (Ends R)) →
    Calls Tryz.prog 143 #[.pointer (some ⟨B, 0, none⟩), .int .i64 d, .string fin, .func (.func g) #[] lb] w (Ends R)

def CallReads (f d : Nat) : Prop := ∀ (B : Nat) (l : Toks) (i : Nat) (w : World) (g : Nat) (lb : Array Value), (∀ args w, (callFunc g args).run Tryz.prog w = .ok (.enter g args) w) → ∀ (R : Int → World → Prop), RdAt B l i w →
    (∀ e, pCall (pEx l f) l i = .bad e → ∀ w', Moved B w w' → R e w') →
    (∀ x j, pCall (pEx l f) l i = .ok x j → ∀ w' v, Moved B w w' → RdAt B l j w' → ExIs (Fresh w.heap.size w') w' x v → Calls Tryz.prog g (#[v] ++ lb) w' (Ends R)) →
    Calls Tryz.prog 146 #[.pointer (some ⟨B, 0, none⟩), .int .i64 d, .func (.func g) #[] lb] w (Ends R)

theorem call_back (g : Nat) (lb : Array Value) (eg : ∀ args w, (callFunc g args).run Tryz.prog w = .ok (.enter g args) w) (R : Int → World → Prop) (bk bo bn : Nat) (o n : ByteArray) (va1 : Option Addr) (va2 va3 : Nat) (W : World)
    (hk : W.cell? ⟨bk, 0, none⟩ = some (.func (.func g) #[] lb)) (ho : W.cell? ⟨bo, 0, none⟩ = some (.string o)) (hn : W.cell? ⟨bn, 0, none⟩ = some (.string n))
    (h : Calls Tryz.prog g (#[.agg #[.int .i64 4, .int .i64 0, .string o, .string n, .slice va1 va2 va3]] ++ lb) W (Ends R)) :
    Calls Tryz.prog 156 #[.slice va1 va2 va3, .pointer (some ⟨bk, 0, none⟩), .pointer (some ⟨bo, 0, none⟩), .pointer (some ⟨bn, 0, none⟩)] W (Ends R) := by
  have HK := veil h
  clear h
  go_enter Tryz.func156, Tryz.ntmps156
  go_wp2_with fail
  refine HK.out.mono ?_
  rintro e w' ⟨y, rfl, hy⟩
  have HY := veil hy
  clear hy
  go_wp2_with fail
  go_ret
  exact ⟨_, rfl, HY.out⟩

set_option maxHeartbeats 4000000 in
theorem call_next (f d : Nat) (hA : ArgsReads f d) : CallReads f d := by
  intro B l i w g lb eg R hr hbad hok
  have hlt := rd_lt hr
  have hal : Below w.heap.size w (w.alloc (.cells #[.func (.func g) #[] lb] 128)) := (Below.refl _ _).alloc (Nat.le_refl _) _
  have HM0 : Hid (Moved B w (w.alloc (.cells #[.func (.func g) #[] lb] 128))) := Moved.of_below hal (by omega)
  have HR0 := veil (rd_below hr hal)
  have HBad := veil hbad
  have HOk := veil hok
  have HEg := veil eg
  have HA := veil hA
  have hef := makeFunc_run
  have HP : Hid (pCall (pEx l f) l i = match nameAt l i with
    | .bad e => .bad e
    | .ok x j => if sgn l j [40] = true then (if sgn l (j + 1) [41] = true then .ok (exCall x.1 x.2 []) (j + 2) else match pList (pEx l f) l [41] (l.length + 1) [] (j + 1) with
        | .bad e => .bad e
        | .ok xs j' => .ok (exCall x.1 x.2 xs) j') else if noneB x.1 = true then .ok (exParam x.2) j else .bad 4) := by show _ = _; unfold pCall; rfl
  clear hbad hok hr hal eg hA
  go_enter Tryz.func146, Tryz.ntmps146
  go_wp2_with fail
  refine (name_next B l i _ HR0.out).mono ?_
  rintro e w1 ⟨hm, ⟨hn, o, t, rfl⟩ | ⟨o, t, j, hn, ho, hti, rfl, hr⟩⟩
  · rw [hn] at HP
    have hsz1 : w.heap.size + 1 ≤ w1.heap.size := by have := hm.below.size; simpa using this
    have HB := veil (HBad.out _ HP.out ((w1.alloc (.cells #[.string o] 9)).alloc (.cells #[.string t] 9)) (((HM0.out.trans hm).alloc (by omega) _).alloc (by simp; omega) _))
    clear hm hn HBad HOk
    go_wp2_with fail
    go_ret
    exact ⟨_, rfl, HB.out⟩
  · rw [hn] at HP
    have hsz1 : w.heap.size + 1 ≤ w1.heap.size := by have := hm.below.size; simpa using this
    have hal2 : Below w1.heap.size w1 ((w1.alloc (.cells #[.string o] 9)).alloc (.cells #[.string t] 9)) := ((Below.refl _ _).alloc (Nat.le_refl _) _).alloc (by simp) _
    have HM2 : Hid (Moved B w ((w1.alloc (.cells #[.string o] 9)).alloc (.cells #[.string t] 9))) := (HM0.out.trans hm).trans (Moved.of_below hal2 (by omega))
    have hck : w1.cell? ⟨w.heap.size, 0, none⟩ = some (.func (.func g) #[] lb) := (hm.cell (by omega) (by simp) 0).trans (World.cell?_alloc_at _ _ _ _ rfl)
    have HR2 := veil (rd_below hr hal2)
    have hw2 : ∃ w2, ((w1.alloc (.cells #[.string o] 9)).alloc (.cells #[.string t] 9)) = w2 ∧ w2.cell? ⟨w.heap.size, 0, none⟩ = some (.func (.func g) #[] lb) ∧ w2.cell? ⟨w1.heap.size, 0, none⟩ = some (.string o) ∧ w2.cell? ⟨w1.heap.size + 1, 0, none⟩ = some (.string t) ∧ w2.heap.size = w1.heap.size + 2 :=
      ⟨_, rfl, (World.cell?_alloc_old _ _ _ (by simp; omega)).trans ((World.cell?_alloc_old _ _ _ (by show w.heap.size ≠ _; omega)).trans hck), (World.cell?_alloc_old _ _ _ (by simp)).trans (World.cell?_alloc_at _ _ _ _ rfl), World.cell?_alloc_at _ _ _ _ (by simp), by simp⟩
    have hos := noneOr_le ho
    have hts := ident_le hti
    have HNN := veil (text_eq o [])
    clear hm hn hr hal2 hck
    obtain ⟨w2, hwe, x0, x1, x2, hs2⟩ := hw2
    rw [hwe] at HM2 HR2
    have HX := veil (show ∀ W, Moved B w2 W → W.cell? ⟨w.heap.size, 0, none⟩ = some (.func (.func g) #[] lb) ∧ W.cell? ⟨w1.heap.size, 0, none⟩ = some (.string o) ∧ W.cell? ⟨w1.heap.size + 1, 0, none⟩ = some (.string t) from fun W h => ⟨(h.cell (by omega) (by omega) 0).trans x0, (h.cell (by omega) (by omega) 0).trans x1, (h.cell (by omega) (by omega) 0).trans x2⟩)
    go_wp2_with fail
    try rw [hwe]
    refine (sign_next B l j ⟨#[40]⟩ _ HR2.out).mono ?_
    rintro e w3 ⟨rfl, q1, q2⟩
    have HN3 := veil q2
    have HM3 := veil (HM2.out.trans q2)
    have hsz3 := q2.below.size
    obtain ⟨y0, y1, y2⟩ := HX.out w3 q2
    clear x0 x1 x2
    cases hs : sgn l j [40]
    · have hs' : sgn l j (ByteArray.mk #[40]).data.toList = false := hs
      rw [hs'] at q1
      rw [if_neg (by rw [hs]; simp)] at HP
      have HR3 : Hid (RdAt B l j w3) := q1
      try rw [hs']
      cases hoe : (o.toList == [])
      · rw [if_neg (by rw [noneB, ← HNN.out, hoe]; simp)] at HP
        have HB := veil (HBad.out _ HP.out w3 HM3.out)
        clear q1 q2 HBad HOk hwe
        go_wp2_with fail
        go_ret
        exact ⟨_, rfl, HB.out⟩
      · rw [if_pos (by rw [noneB, ← HNN.out, hoe])] at HP
        have HK := veil (HOk.out _ _ HP.out w3 (.agg #[.int .i64 3, .int .i64 0, .string ⟨#[]⟩, .string t, .slice none 0 0]) HM3.out HR3.out ⟨_, _, _, _, _, rfl, [], rfl, empty_le, hts, none_sl⟩)
        have eg := HEg.out
        clear q1 q2 HBad HOk hwe
        go_wp2_with fail
        refine HK.out.mono ?_
        rintro e w' ⟨y, rfl, hy⟩
        have HY := veil hy
        clear hy
        go_wp2_with fail
        go_ret
        exact ⟨_, rfl, HY.out⟩
    · have hs' : sgn l j (ByteArray.mk #[40]).data.toList = true := hs
      rw [hs'] at q1
      rw [if_pos hs] at HP
      have HR3 : Hid (RdAt B l (j + 1) w3) := q1
      try rw [hs']
      clear q1 q2
      go_wp2_with fail
      refine (sign_next B l (j + 1) ⟨#[41]⟩ _ HR3.out).mono ?_
      rintro e w4 ⟨rfl, q1, q2⟩
      have HN4 := veil (HN3.out.trans q2)
      have HM4 := veil (HM3.out.trans q2)
      have hsz4 := q2.below.size
      obtain ⟨z0, z1, z2⟩ := HX.out w4 HN4.out
      clear y0 y1 y2
      cases hc : sgn l (j + 1) [41]
      · have hc' : sgn l (j + 1) (ByteArray.mk #[41]).data.toList = false := hc
        rw [hc'] at q1
        rw [if_neg (by rw [hc]; simp)] at HP
        have cA := HA.out B l (j + 1) ⟨#[41]⟩ w4 156 #[.pointer (some ⟨w.heap.size, 0, none⟩), .pointer (some ⟨w1.heap.size, 0, none⟩), .pointer (some ⟨w1.heap.size + 1, 0, none⟩)] (enters_of Tryz.func156 (by kernel_rfl) rfl) R q1
          (fun e he w' hm => HBad.out e (by rw [HP.out]; rw [show pList (pEx l f) l [41] (l.length + 1) [] (j + 1) = .bad e from he]) w' (HM4.out.trans hm))
          (fun xs j' hx w' v hm hr' hv => by
            obtain ⟨va1, va2, va3, rfl⟩ := hv.slice
            obtain ⟨u0, u1, u2⟩ := HX.out w' (HN4.out.trans hm)
            refine call_back g lb HEg.out R _ _ _ o t va1 va2 va3 w' u0 u1 u2 ?_
            exact HOk.out (exCall o t xs) j' (by rw [HP.out]; rw [show pList (pEx l f) l [41] (l.length + 1) [] (j + 1) = .ok xs j' from hx]) w' _ (HM4.out.trans hm) hr' ⟨_, _, _, _, _, rfl, xs, rfl, hos, hts, exSl_keep ⟨fun _ _ => rfl, fun _ hb => ⟨by have := hb.1; omega, hb.2⟩⟩ hv⟩)
        have HCA := veil cA
        try rw [hc']
        clear q1 q2 HBad HOk cA hwe
        go_wp2_with fail
        refine HCA.out.mono ?_
        rintro e w' ⟨y, rfl, hy⟩
        have HY := veil hy
        clear hy
        go_wp2_with fail
        go_ret
        exact ⟨_, rfl, HY.out⟩
      · have hc' : sgn l (j + 1) (ByteArray.mk #[41]).data.toList = true := hc
        rw [hc'] at q1
        rw [if_pos hc] at HP
        have HCA := veil (call_back g lb HEg.out R _ _ _ o t none 0 0 w4 z0 z1 z2 (HOk.out _ _ HP.out w4 _ HM4.out q1 ⟨_, _, _, _, _, rfl, [], rfl, hos, hts, none_sl⟩))
        have ec := enters_of (P := Tryz.prog) Tryz.func156 (by kernel_rfl) rfl
        try rw [hc']
        clear q1 q2 HBad HOk hwe
        go_wp2_with fail
        refine HCA.out.mono ?_
        rintro e w' ⟨y, rfl, hy⟩
        have HY := veil hy
        clear hy
        go_wp2_with fail
        go_ret
        exact ⟨_, rfl, HY.out⟩

end Go.Proofs.YtpamadnckijfkabGreatDoor
